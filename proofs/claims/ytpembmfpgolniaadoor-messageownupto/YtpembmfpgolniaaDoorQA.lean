import Derived.Test.YtpembmfpgolniaaDoorH2
import Derived.ArgAppend
import Derived.Laws.OwnMore
import Derived.Test.YtpembmfpgolniaaDoorAh
import Derived.Test.YtpembmfpgolniaaDoorH3
import Derived.Test.YtpembmfpgolniaaDoorH4
import Derived.Lib.SmallJoins
import Derived.Deep.RegionHeld3
namespace Go.Proofs.YtpembmfpgolniaaDoor
open Go.RowKit
/-- an array with a list laid from a place on -/
def setR : Array Value → Nat → List Value → Array Value
  | cur, _, [] => cur
  | cur, o, u :: us => setR (cur.setIfInBounds o u) (o + 1) us
theorem setR_size : ∀ (us : List Value) (cur : Array Value) (o : Nat), (setR cur o us).size = cur.size
  | [], _, _ => rfl
  | u :: us, cur, o => by unfold setR; rw [setR_size us, Array.size_setIfInBounds]
theorem setR_low : ∀ (us : List Value) (cur : Array Value) (o k : Nat), k ≤ o → (setR cur o us).toList.take k = cur.toList.take k
  | [], _, _, _, _ => rfl
  | u :: us, cur, o, k, h => by
    unfold setR
    rw [setR_low us _ (o + 1) k (by omega), Array.toList_setIfInBounds, List.take_set_of_le h]
theorem setR_high : ∀ (us : List Value) (cur : Array Value) (o : Nat), o + us.length ≤ cur.size → (setR cur o us).toList.take (o + us.length) = cur.toList.take o ++ us
  | [], _, _, _ => by simp [setR]
  | u :: us, cur, o, h => by
    rw [List.length_cons] at h
    unfold setR
    have := setR_high us (cur.setIfInBounds o u) (o + 1) (by rw [Array.size_setIfInBounds]; omega)
    rw [List.length_cons, show o + (us.length + 1) = o + 1 + us.length by omega, this, Array.toList_setIfInBounds, List.take_succ_eq_append_getElem (by simp; omega), List.take_set_of_le (Nat.le_refl _)]
    simp
theorem setCells_heap : ∀ (us : List Value) (w : World) (g o : Nat) (cur : Array Value) (t : TypeId), w.heap[g]? = some (.cells cur t (0, 0)) → (w.setCells g o us).heap[g]? = some (.cells (setR cur o us) t (0, 0))
  | [], _, _, _, _, _, h => h
  | u :: us, w, g, o, cur, t, h => by
    unfold World.setCells setR
    exact setCells_heap us _ g (o + 1) _ t (heap_setCell_same w g o cur t u h)
theorem setCells_other : ∀ (us : List Value) (w : World) (g o k : Nat), k ≠ g → (w.setCells g o us).heap[k]? = w.heap[k]?
  | [], _, _, _, _, _ => rfl
  | u :: us, w, g, o, k, h => by
    unfold World.setCells
    rw [setCells_other us _ g (o + 1) k h]
    exact Below.heap_setCell _ _ _ _ (fun e => h e)
theorem setCells_rest : ∀ (us : List Value) (w : World) (g o : Nat), (w.setCells g o us).os = w.os ∧ (w.setCells g o us).tape = w.tape ∧ (w.setCells g o us).output = w.output ∧ (w.setCells g o us).heap.size = w.heap.size
  | [], _, _, _ => ⟨rfl, rfl, rfl, rfl⟩
  | u :: us, w, g, o => by
    unfold World.setCells
    obtain ⟨h1, h2, h3, h4⟩ := setCells_rest us (w.setCell ⟨g, o, none⟩ u) g (o + 1)
    exact ⟨h1, h2, h3, by rw [h4]; simp⟩
theorem ownsRow_baseL {w : World} {B B' e size n : Nat} {v : Value} {xs : List Value} (h : w.ownsRow B e size v n xs) (hb : B' ≤ B) : w.ownsRow B' e size v n xs := by
  refine ⟨h.1, ?_⟩
  rcases h.2 with h1 | ⟨g, cap, cur, h1, h2, h3⟩
  · exact .inl h1
  · exact .inr ⟨g, cap, cur, h1, Nat.le_trans hb h2, h3⟩
/-- what an append keeps: every list of the same kind that ends no later -/
def KeepsL (e : TypeId) (sz : Nat) (sv : Value) (n : Nat) (w w' : World) : Prop := ∀ (B0 : Nat) (v0 : Value) (m : Nat) (xs0 : List Value), w.ownsRow B0 e sz v0 m xs0 → (v0.ownBlock = sv.ownBlock → m ≤ n) → w'.ownsRow B0 e sz v0 m xs0
theorem append_bothL {ops : Array Oper} {rest : List Oper} {o : Oper} {a : Act} {Q : Exit → Act → World → Prop} {w : World} {B : Nat} {e t : TypeId} {sv : Value} {n sz m : Nat} {xs us : List Value} (i0 : TypeInfo) (z : Value) (bytes : Nat) (hgd : o.guard = none) (s x : Operand)
    (ho : o.op = .call { callee := .builtin .append, args := #[s, x], argTypes := #[t, t] }) (h1 : Tryd.prog.underlying t = some (.slice e)) (h2 : Tryd.prog.info? e = some i0) (h3 : i0.zero = some z) (h4 : i0.size = sz) (h5 : i0.bytes = bytes) (h6 : z.cells.size = sz) (h7 : 0 < sz) (hm : 0 < m)
    (hs : a.eval s = sv) (hown : w.ownsRow B e sz sv n xs) (ad : Addr) (cx : Nat) (hx : a.eval x = .slice (some ad) m cx) (hul : us.length = m * sz) (hc : ∀ j u, us[j]? = some u → w.cell? (ad.add j) = some u) (h1c : ∀ u ∈ us, u.oneCell' = true) (hB : B ≤ w.heap.size) (b1 : n + m ≤ maxLen) (b2 : (n + m) * bytes ≤ 140737488355328)
    (h : ∀ v' w', w'.ownsRow B e sz v' (n + m) (xs ++ us) → KeepsL e sz sv n w w' → w.grownBy w' sv.ownBlock → (v'.ownBlock = sv.ownBlock ∨ ∀ g, v'.ownBlock = some g → w.heap.size ≤ g) → wpList Tryd.prog ops Q rest (a.put o.dst v') w') : wpList Tryd.prog ops Q (o :: rest) a w := by
  have hall : ∀ w', w.grownBy w' none → KeepsL e sz sv n w w' := fun w' r2 B0 v0 m xs0 ho' _ => by
    refine ⟨ho'.1, ?_⟩
    rcases ho'.2 with hh | ⟨g, cap, cur, e1, e2, e3, e4⟩
    · exact .inl hh
    · exact .inr ⟨g, cap, cur, e1, e2, (r2.block g (Array.getElem?_eq_some_iff.1 e3).1 (by simp)).trans e3, e4⟩
  rcases hown.2 with ⟨rfl, rfl⟩ | ⟨g, cap, cur, rfl, hBg, hg, hnc, hcm, hsz, htk⟩
  · obtain rfl : xs = [] := List.eq_nil_of_length_eq_zero (by simpa using hown.1)
    refine wpList_append_grows w hgd s x t ho e i0 z sz bytes h1 h2 h3 h4 h5 h6 h7 none 0 0 [] hs (fun _ => ⟨rfl, rfl⟩) (by simp) (fun b hb => by cases hb) ad m cx us hx hul hc h1c (by omega) b1 b2 (fun v' w' r1 r2 => ?_)
    exact h v' w' (ownsRow_baseL r1 hB) (hall w' r2) r2 (.inr (fun g hg => (World.ownsRow.lt r1 g hg).1))
  · refine wpList_append_arg w hgd s x t ho e i0 z sz bytes h1 h2 h3 h4 h5 h6 h7 g 0 n cap xs hs hown.1 (fun j u' hj => ?_) ad m cx us hx hul hc h1c (fun hr j hj => ?_) b1 b2 (fun hr => ?_) (fun hr v' w' r1 r2 => ?_)
    · have hj' : j < n * sz := by
        have := (List.getElem?_eq_some_iff.1 hj).1
        rwa [hown.1] at this
      rw [Nat.zero_add]
      rw [← htk, List.getElem?_take_of_lt hj', Array.getElem?_toList] at hj
      simpa [World.cell?, hg] using hj
    · have hle : n * sz + m * sz ≤ cur.size := by rw [← Nat.add_mul, hsz]; exact Nat.mul_le_mul_right _ hr
      have : n * sz + j < cur.size := by omega
      rw [Nat.zero_add]
      exact ⟨by simp [World.cell?, hg, this], by simp [World.frozen?, hg]⟩
    · have hle : n * sz + us.length ≤ cur.size := by rw [hul, ← Nat.add_mul, hsz]; exact Nat.mul_le_mul_right _ hr
      rw [Nat.zero_add]
      have hh := setCells_heap us w g (n * sz) cur e hg
      obtain ⟨k1, k2, k3, k4⟩ := setCells_rest us w g (n * sz)
      refine h _ _ ⟨by rw [List.length_append, hown.1, hul, Nat.add_mul], .inr ⟨g, cap, _, rfl, hBg, hh, hr, hcm, by rw [setR_size]; exact hsz, ?_⟩⟩ (fun B0 v0 m0 xs0 ho' hm0 => ?_) ⟨k1, k2, k3, by rw [k4]; exact Nat.le_refl _, fun k hk hne => setCells_other us w g _ k (fun e => hne (by rw [e]; rfl))⟩ (.inl rfl)
      · have := setR_high us cur (n * sz) hle
        rw [hul, ← Nat.add_mul] at this
        rw [this, htk]
      · refine ⟨ho'.1, ?_⟩
        rcases ho'.2 with hh' | ⟨g', cap', cur', e1, e2, e3, e4, e5, e6, e7⟩
        · exact .inl hh'
        · by_cases eg : g' = g
          · subst eg
            have hm' := hm0 (by rw [e1]; rfl)
            rw [hg] at e3
            simp only [Option.some.injEq, Obj.cells.injEq] at e3
            obtain ⟨rfl, _⟩ := e3
            refine .inr ⟨g', cap', _, e1, e2, hh, e4, e5, by rw [setR_size]; exact e6, ?_⟩
            rw [setR_low us cur _ _ (Nat.mul_le_mul_right _ hm')]
            exact e7
          · exact .inr ⟨g', cap', cur', e1, e2, (setCells_other us w g _ g' eg).trans e3, e4, e5, e6, e7⟩
    · exact h v' w' (ownsRow_baseL r1 hB) (hall w' r2) ⟨r2.os, r2.tape, r2.output, r2.size, fun k hk _ => r2.block k hk (by simp)⟩ (.inr (fun g hg => (World.ownsRow.lt r1 g hg).1))
end Go.Proofs.YtpembmfpgolniaaDoor
namespace Go.Proofs.YtpembmfpgolniaaDoor
open Go.RowKit
/-- a list gone on with: the new one, and the old one as it was -/
structure GIL (w : World) (B : Nat) (e : TypeId) (sz : Nat) (v0 : Value) (n : Nat) (xs : List Value) (k : Nat) (ys : List Value) (v : Value) (wr : World) : Prop where
  new : wr.ownsRow B e sz v (n + k) (xs ++ ys)
  old : wr.ownsRow B e sz v0 n xs
  fr : Fm.Fr (fun k => v0.ownBlock ≠ some k) w wr
  at_ : v.ownBlock = v0.ownBlock ∨ ∀ g, v.ownBlock = some g → w.heap.size ≤ g
theorem GIL.start {w : World} {B : Nat} {e : TypeId} {sz : Nat} {v0 : Value} {n : Nat} {xs : List Value} (h : w.ownsRow B e sz v0 n xs) : GIL w B e sz v0 n xs 0 [] v0 w := ⟨by simpa using h, h, Fm.Fr.refl _ _, .inl rfl⟩
theorem ownsRow_oneL {w w' : World} {B e size n : Nat} {v : Value} {xs : List Value} (h : w.ownsRow B e size v n xs) (hk : ∀ k, v.ownBlock = some k → w'.heap[k]? = w.heap[k]?) : w'.ownsRow B e size v n xs := by
  refine ⟨h.1, ?_⟩
  rcases h.2 with h1 | ⟨g, cap, cur, h1, h2, h3, h4⟩
  · exact .inl h1
  · exact .inr ⟨g, cap, cur, h1, h2, (hk g (by rw [h1]; rfl)).trans h3, h4⟩
theorem GIL.keep {w : World} {B : Nat} {e : TypeId} {sz : Nat} {v0 v : Value} {n k : Nat} {xs ys : List Value} {wr w' : World} (h : GIL w B e sz v0 n xs k ys v wr) (hb : Below wr.heap.size wr w') : GIL w B e sz v0 n xs k ys v w' :=
  ⟨ownsRow_oneL h.new (fun k hk => hb.block k (World.ownsRow.lt h.new k hk).2), ownsRow_oneL h.old (fun k hk => hb.block k (World.ownsRow.lt h.old k hk).2), h.fr.trans (Fm.Fr.of_below hb) (fun _ _ x => x), h.at_⟩
theorem GIL.next {w : World} {B : Nat} {e : TypeId} {sz : Nat} {v0 v v' : Value} {n k m : Nat} {xs ys us : List Value} {wr w' : World} (h : GIL w B e sz v0 n xs k ys v wr) (h1 : w'.ownsRow B e sz v' (n + k + m) (xs ++ ys ++ us)) (h2 : KeepsL e sz v (n + k) wr w') (h3 : wr.grownBy w' v.ownBlock) (h4 : v'.ownBlock = v.ownBlock ∨ ∀ g, v'.ownBlock = some g → wr.heap.size ≤ g) : GIL w B e sz v0 n xs (k + m) (ys ++ us) v' w' := by
  refine ⟨by rw [← List.append_assoc, ← Nat.add_assoc]; exact h1, h2 B v0 n xs h.old (fun _ => by omega), ?_, ?_⟩
  · refine ⟨h3.os.trans h.fr.os, h3.tape.trans h.fr.tape, h3.output.trans h.fr.output, Nat.le_trans h.fr.size h3.size, fun k hk hs => (h3.block k (Nat.lt_of_lt_of_le hk h.fr.size) (fun e => ?_)).trans (h.fr.block k hk hs)⟩
    rcases h.at_ with e1 | e1
    · exact hs (by rw [← e1]; exact e.symm)
    · have := e1 k e.symm; omega
  · rcases h4 with e | e
    · rw [e]; exact h.at_
    · right
      intro g hg
      have := e g hg
      have := h.fr.size
      omega
theorem GIL.form {w : World} {B : Nat} {e : TypeId} {sz : Nat} {v0 v : Value} {n k : Nat} {xs ys : List Value} {wr : World} (h : GIL w B e sz v0 n xs k ys v wr) : ∃ a n c, v = .slice a n c := by
  rcases h.new.2 with ⟨e, _⟩ | ⟨g, cap, cur, e, _⟩
  · exact ⟨_, _, _, e⟩
  · exact ⟨_, _, _, e⟩
/-- the marks, two by two -/
def mkm (m k : Nat) : List Value := (List.replicate k [Value.int .u8 ((m : Int) % 256), Value.int .u8 ((m : Int) / 256 % 256)]).flatten
theorem mkm_succ (m k : Nat) : mkm m (k + 1) = mkm m k ++ [Value.int .u8 ((m : Int) % 256), Value.int .u8 ((m : Int) / 256 % 256)] := by
  unfold mkm
  rw [List.replicate_succ', List.flatten_append]
  simp
def StrE (w : World) (B : Nat) (v0 : Value) (l : List UInt8) (m : Nat) (en : Ending) (w' : World) : Prop := ∃ v, en = .returned v ∧ GIL w B 5 1 v0 l.length (Lib.byteCells l) 70 (mkm m 35) v w'
theorem cellH2 {w : World} {g j : Nat} {cs : Array Value} {t : TypeId} (h : w.heap[g]? = some (.cells cs t (0, 0))) : w.cell? ⟨g, j, none⟩ = cs[j]? := by simp [World.cell?, h]
theorem two_cells (w : World) (a b : Value) (t : TypeId) : ∀ (j : Nat) (u : Value), ([a, b] : List Value)[j]? = some u → (w.alloc (.cells #[a, b] t)).cell? ((⟨w.heap.size, 0, none⟩ : Addr).add j) = some u := fun j u hj => by
  match j, hj with
  | 0, hj => simp at hj; subst hj; exact cellH2 (heapNew _ _)
  | 1, hj => simp at hj; subst hj; exact cellH2 (heapNew _ _)
set_option maxHeartbeats 1000000 in
theorem stretchedT (v0 : Value) (l : List UInt8) (m B : Nat) (w : World) (ho : OW B w v0 l) (hB : B ≤ w.heap.size) (hl : l.length ≤ 16777216) :
    Calls Tryd.prog 13 #[v0, .int .i64 (m : Int)] w (StrE w B v0 l m) := by
  obtain ⟨a, ca, rfl⟩ := ho.form
  obtain ⟨i0, hi, hz0, hz1, hz2⟩ := info_parts info5
  have HF : Hid (Tryd.prog.info? 5 = some i0 ∧ i0.zero = some (.int .u8 0) ∧ i0.size = 1 ∧ i0.bytes = 1) := ⟨hi, hz0, hz1, hz2⟩
  have HI : Hid (GIL w B 5 1 (.slice a l.length ca) l.length (Lib.byteCells l) 0 [] (.slice a l.length ca) w ∧ B ≤ w.heap.size) := ⟨GIL.start ho, hB⟩
  clear ho hi hz0 hz1 hz2 hB
  unfold StrE
  generalize l.length = n at *
  generalize Lib.byteCells l = xs at *
  go_enter Tryd.func13, Tryd.ntmps13
  have key : ∀ (k : Nat) (v : Value) (wr : World), GIL w B 5 1 (.slice a n ca) n xs (2 * k) (mkm m k) v wr → Hid (GIL w B 5 1 (.slice a n ca) n xs (2 * k) (mkm m k) v (wr.alloc (.cells #[.int .u8 ((m : Int) % 256), .int .u8 ((m : Int) / 256 % 256)] 5)) ∧ B ≤ (wr.alloc (.cells #[.int .u8 ((m : Int) % 256), .int .u8 ((m : Int) / 256 % 256)] 5)).heap.size) := fun k v wr h =>
    ⟨h.keep ((Below.refl _ _).alloc (Nat.le_refl _) _), by have := h.fr.size; have := HI.out.2; simp; omega⟩
  have step : ∀ (k : Nat) (v v' : Value) (wr w' : World), GIL w B 5 1 (.slice a n ca) n xs (2 * k) (mkm m k) v wr → w'.ownsRow B 5 1 v' (n + 2 * k + 2) (xs ++ mkm m k ++ [.int .u8 ((m : Int) % 256), .int .u8 ((m : Int) / 256 % 256)]) → KeepsL 5 1 v (n + 2 * k) wr w' → wr.grownBy w' v.ownBlock → (v'.ownBlock = v.ownBlock ∨ ∀ g, v'.ownBlock = some g → wr.heap.size ≤ g) → Hid (GIL w B 5 1 (.slice a n ca) n xs (2 * (k + 1)) (mkm m (k + 1)) v' w') := fun k v v' wr w' h q1 q2 q3 q4 => by
    have := h.next q1 q2 q3 q4
    rw [mkm_succ]
    exact this
  have K0 := key 0 _ w HI.out.1
  clear HI
  go_wp2_with (first | (at_builtin; refine append_bothL (m := 2) (us := [.int .u8 ((m : Int) % 256), .int .u8 ((m : Int) / 256 % 256)]) i0 _ 1 rfl _ _ rfl Tryd.underlying22 HF.out.1 HF.out.2.1 HF.out.2.2.1 HF.out.2.2.2 rfl (by omega) (by omega) rfl K0.out.1.new ⟨w.heap.size, 0, none⟩ 2 rfl rfl (two_cells _ _ _ _) (by simp [Value.oneCell']) K0.out.2 (by unfold maxLen; omega) (by omega) ?_; intro v' w' q1 q2 q3 q4))
  have K1 := step 0 _ v' _ w' K0.out.1 q1 q2 q3 q4
  obtain ⟨va, vn, vc, rfl⟩ := K1.out.form
  clear K0 q1 q2 q3 q4
  go_loopw [5, 6] (fun v t wr => ∃ (k : Nat) (va : Option Addr) (vn vc : Nat), 1 ≤ k ∧ k ≤ 35 ∧ t = .int .i64 (2 * (k : Int)) ∧ v = .slice va vn vc ∧ Hid (GIL w B 5 1 (.slice a n ca) n xs (2 * k) (mkm m k) (.slice va vn vc) wr)) (fun _ t _ => 70 - (intOf t).toNat)
  case atStart => exact ⟨1, va, vn, vc, by omega, by omega, rfl, rfl, K1⟩
  case round =>
    clear K1
    obtain ⟨k, va, vn, vc, hk1, hk2, rfl, rfl, HK⟩ := hrel
    by_cases hlt : k < 35
    · have KA := key k _ wr HK.out
      clear HK
      go_wp2_with (first | (at_builtin; refine append_bothL (m := 2) (us := [.int .u8 ((m : Int) % 256), .int .u8 ((m : Int) / 256 % 256)]) i0 _ 1 rfl _ _ rfl Tryd.underlying22 HF.out.1 HF.out.2.1 HF.out.2.2.1 HF.out.2.2.2 rfl (by omega) (by omega) rfl KA.out.1.new ⟨wr.heap.size, 0, none⟩ 2 rfl rfl (two_cells _ _ _ _) (by simp [Value.oneCell']) KA.out.2 (by unfold maxLen; omega) (by omega) ?_; intro v' w' q1 q2 q3 q4))
      have KB := step k _ v' _ w' KA.out.1 q1 q2 q3 q4
      obtain ⟨xa, xn, xc, rfl⟩ := KB.out.form
      clear KA q1 q2 q3 q4
      exact ⟨⟨k + 1, xa, xn, xc, by omega, by omega, by go_num, rfl, KB⟩, by simp [intOf]; omega⟩
    · obtain rfl : k = 35 := by omega
      go_wp2
      go_ret
      exact ⟨_, rfl, HK.out⟩
end Go.Proofs.YtpembmfpgolniaaDoor
namespace Go.Proofs.YtpembmfpgolniaaDoor
open Go.RowKit
/-- a mark of 32 bytes -/
def hmk (x y : Int) : List Value := [Value.int .u8 x, Value.int .u8 y, Value.int .u8 5] ++ List.replicate 29 (Value.int .u8 0)
theorem hmk_len (x y : Int) : (hmk x y).length = 32 := rfl
theorem hmk_one (x y : Int) : ∀ u ∈ hmk x y, u.oneCell' = true := fun u hu => by
  simp only [hmk, List.mem_append, List.mem_cons, List.mem_replicate, List.not_mem_nil, or_false] at hu
  rcases hu with (rfl | rfl | rfl) | ⟨_, rfl⟩ <;> rfl
theorem hmk_built (x y : Int) : Tryd.prog.built 24 [(0, .int .u8 x), (1, .int .u8 y), (2, .int .u8 5)] = some (hmk x y).toArray := by kernel_rfl
def hms (x y : Int) (k : Nat) : List Value := (List.replicate k (hmk x y)).flatten
theorem hms_succ (x y : Int) (k : Nat) : hms x y (k + 1) = hms x y k ++ hmk x y := by
  unfold hms
  rw [List.replicate_succ', List.flatten_append]
  simp
theorem row_cells (w : World) (us : List Value) (t : TypeId) : ∀ (j : Nat) (u : Value), us[j]? = some u → (w.alloc (.cells us.toArray t)).cell? ((⟨w.heap.size, 0, none⟩ : Addr).add j) = some u := fun j u hj => by
  have hadd : (⟨w.heap.size, 0, none⟩ : Addr).add j = ⟨w.heap.size, j, none⟩ := by unfold Addr.add; split <;> simp_all
  rw [hadd, cellH2 (heapNew _ _)]
  simpa using hj
theorem built_hash {ops : Array Oper} {rest : List Oper} {o : Oper} {a : Act} {w : World} {Q : Exit → Act → World → Prop} (hg : o.guard = none) (x0 x1 x2 : Operand) (ho : o.op = .build 24 #[(0, x0), (1, x1), (2, x2)]) (v0 v1 v2 : Value) (h0 : a.eval x0 = v0) (h1 : a.eval x1 = v1) (h2 : a.eval x2 = v2) (T : Array Value)
    (hT : Tryd.prog.built 24 [(0, v0), (1, v1), (2, v2)] = some T) (h : wpList Tryd.prog ops Q rest (a.put o.dst (.agg T)) w) : wpList Tryd.prog ops Q (o :: rest) a w := by
  have e : (#[(0, x0), (1, x1), (2, x2)].map fun (i, y) => (i, a.eval y)).toList = [(0, v0), (1, v1), (2, v2)] := by simp [h0, h1, h2]
  exact wpList_build hg _ _ ho (by rw [e, hT]; rfl) (by rw [e, hT]; exact h)
def DrE (w : World) (B : Nat) (v0 : Value) (n : Nat) (xs : List Value) (m : Nat) (en : Ending) (w' : World) : Prop := ∃ v, en = .returned v ∧ GIL w B 24 32 v0 n xs 5 (hms ((m : Int) % 256) ((m : Int) / 256 % 256) 5) v w'
set_option maxHeartbeats 1000000 in
set_option maxRecDepth 100000 in
theorem drawnT (a : Option Addr) (n ca : Nat) (xs : List Value) (m B : Nat) (w : World) (ho : w.ownsRow B 24 32 (.slice a n ca) n xs) (hB : B ≤ w.heap.size) (hl : n ≤ 16777216) :
    Calls Tryd.prog 14 #[.slice a n ca, .int .i64 (m : Int)] w (DrE w B (.slice a n ca) n xs m) := by
  obtain ⟨i0, hi, hz0, hz1, hz2⟩ := info_parts info_hashP
  have HF : Hid (Tryd.prog.info? 24 = some i0 ∧ i0.zero = some _ ∧ i0.size = 32 ∧ i0.bytes = 32) := ⟨hi, hz0, hz1, hz2⟩
  have HI : Hid (GIL w B 24 32 (.slice a n ca) n xs 0 [] (.slice a n ca) w ∧ B ≤ w.heap.size) := ⟨GIL.start ho, hB⟩
  have HB := hmk_built ((m : Int) % 256) ((m : Int) / 256 % 256)
  have HU : Hid ((hmk ((m : Int) % 256) ((m : Int) / 256 % 256)).length = 1 * 32 ∧ (∀ u ∈ hmk ((m : Int) % 256) ((m : Int) / 256 % 256), u.oneCell' = true) ∧ (hmk ((m : Int) % 256) ((m : Int) / 256 % 256)).toArray.size = 32 ∧ ∀ k, hms ((m : Int) % 256) ((m : Int) / 256 % 256) (k + 1) = hms ((m : Int) % 256) ((m : Int) / 256 % 256) k ++ hmk ((m : Int) % 256) ((m : Int) / 256 % 256)) := ⟨rfl, hmk_one _ _, rfl, hms_succ _ _⟩
  have H0 : Hid (hms ((m : Int) % 256) ((m : Int) / 256 % 256) 0 = []) := rfl
  clear ho hB hi hz0 hz1 hz2
  unfold DrE
  generalize hmk ((m : Int) % 256) ((m : Int) / 256 % 256) = T at *
  generalize hms ((m : Int) % 256) ((m : Int) / 256 % 256) = hs at *
  have key : ∀ (k : Nat) (v : Value) (wr : World), GIL w B 24 32 (.slice a n ca) n xs k (hs k) v wr → Hid (GIL w B 24 32 (.slice a n ca) n xs k (hs k) v (wr.alloc (.cells T.toArray 24)) ∧ B ≤ (wr.alloc (.cells T.toArray 24)).heap.size) := fun k v wr h =>
    ⟨h.keep ((Below.refl _ _).alloc (Nat.le_refl _) _), by have := h.fr.size; have := HI.out.2; simp; omega⟩
  have step : ∀ (k : Nat) (v v' : Value) (wr w' : World), GIL w B 24 32 (.slice a n ca) n xs k (hs k) v wr → w'.ownsRow B 24 32 v' (n + k + 1) (xs ++ hs k ++ T) → KeepsL 24 32 v (n + k) wr w' → wr.grownBy w' v.ownBlock → (v'.ownBlock = v.ownBlock ∨ ∀ g, v'.ownBlock = some g → wr.heap.size ≤ g) → Hid (GIL w B 24 32 (.slice a n ca) n xs (k + 1) (hs (k + 1)) v' w') := fun k v v' wr w' h q1 q2 q3 q4 => by
    have := h.next q1 q2 q3 q4
    rw [HU.out.2.2.2]
    exact this
  have K0 := key 0 _ w (by rw [H0.out]; exact HI.out.1)
  clear HI H0
  go_enter Tryd.func14, Tryd.ntmps14
  go_wp2_with (first | (refine built_hash rfl _ _ _ rfl _ _ _ rfl rfl rfl T.toArray HB ?_) | (refine build_hash rfl _ rfl T.toArray rfl HU.out.2.2.1 ?_) | (at_builtin; refine append_bothL (m := 1) (us := T) i0 _ 32 rfl _ _ rfl Tryd.underlying25 HF.out.1 HF.out.2.1 HF.out.2.2.1 HF.out.2.2.2 rfl (by omega) (by omega) rfl K0.out.1.new ⟨w.heap.size, 0, none⟩ 1 rfl HU.out.1 (row_cells _ _ _) HU.out.2.1 K0.out.2 (by unfold maxLen; omega) (by omega) ?_; intro v' w' q1 q2 q3 q4))
  have K1 := step 0 _ v' _ w' K0.out.1 q1 q2 q3 q4
  obtain ⟨va, vn, vc, rfl⟩ := K1.out.form
  clear K0 q1 q2 q3 q4
  go_loopw [5, 6] (fun v t wr => ∃ (k : Nat) (va : Option Addr) (vn vc : Nat), 1 ≤ k ∧ k ≤ 5 ∧ t = .int .i64 (k : Int) ∧ v = .slice va vn vc ∧ Hid (GIL w B 24 32 (.slice a n ca) n xs k (hs k) (.slice va vn vc) wr)) (fun _ t _ => 5 - (intOf t).toNat)
  case atStart => exact ⟨1, va, vn, vc, by omega, by omega, rfl, rfl, K1⟩
  case round =>
    clear K1
    obtain ⟨k, va, vn, vc, hk1, hk2, rfl, rfl, HK⟩ := hrel
    by_cases hlt : k < 5
    · have KA := key k _ wr HK.out
      clear HK
      go_wp2_with (first | (refine built_hash rfl _ _ _ rfl _ _ _ rfl rfl rfl T.toArray HB ?_) | (refine build_hash rfl _ rfl T.toArray rfl HU.out.2.2.1 ?_) | (at_builtin; refine append_bothL (m := 1) (us := T) i0 _ 32 rfl _ _ rfl Tryd.underlying25 HF.out.1 HF.out.2.1 HF.out.2.2.1 HF.out.2.2.2 rfl (by omega) (by omega) rfl KA.out.1.new ⟨wr.heap.size, 0, none⟩ 1 rfl HU.out.1 (row_cells _ _ _) HU.out.2.1 KA.out.2 (by unfold maxLen; omega) (by omega) ?_; intro v' w' q1 q2 q3 q4))
      have KB := step k _ v' _ w' KA.out.1 q1 q2 q3 q4
      obtain ⟨xa, xn, xc, rfl⟩ := KB.out.form
      clear KA q1 q2 q3 q4
      exact ⟨⟨k + 1, xa, xn, xc, by omega, by omega, by go_num, rfl, KB⟩, by simp [intOf]; omega⟩
    · obtain rfl : k = 5 := by omega
      go_wp2
      go_ret
      exact ⟨_, rfl, HK.out⟩
end Go.Proofs.YtpembmfpgolniaaDoor
namespace Go.Proofs.YtpembmfpgolniaaDoor
open Go.RowKit
/-- the lists of the messages lie in unlike blocks -/
def MD (ms : List Mg) : Prop := ∀ (i j : Nat) x y, i < j → ms[i]? = some x → ms[j]? = some y → (∀ g, x.m.d.ownBlock = some g → y.m.d.ownBlock ≠ some g) ∧ ∀ g, x.m.h.ownBlock = some g → y.m.h.ownBlock ≠ some g
theorem MD.nil : MD [] := fun i j x y _ h => by simp at h
theorem MD.snoc {ms : List Mg} (h : MD ms) {B N : Nat} {w : World} {v : Value} (ho : OMS B w v ms) (hN : w.heap.size ≤ N) {mm : Mg} (hd : ∀ g, mm.m.d.ownBlock = some g → N ≤ g) (hh : ∀ g, mm.m.h.ownBlock = some g → N ≤ g) : MD (ms ++ [mm]) := fun i j x y hij hx hy => by
  have hj := (List.getElem?_eq_some_iff.1 hy).1
  rw [List.length_append, List.length_singleton] at hj
  have hxi : ms[i]? = some x := by
    rw [List.getElem?_append_left (by omega)] at hx
    exact hx
  by_cases hlt : j < ms.length
  · rw [List.getElem?_append_left hlt] at hy
    exact h i j x y hij hxi hy
  · obtain rfl : j = ms.length := by omega
    rw [List.getElem?_append_right (Nat.le_refl _), Nat.sub_self] at hy
    simp at hy
    subst hy
    have hox := ho.2 x (List.mem_of_getElem? hxi)
    refine ⟨fun g e1 e2 => ?_, fun g e1 e2 => ?_⟩
    · have := (World.ownsRow.lt hox.d g e1).2
      have := hd g e2
      omega
    · obtain ⟨n, _, hr⟩ := hox.h
      have := (World.ownsRow.lt hr g e1).2
      have := hh g e2
      omega
/-- what its loop keeps -/
structure UIN2 (w wr : World) (bv u : Value) (bs : List (List UInt8)) (n : Nat) (ms : List Mg) : Prop where
  o : OMS w.heap.size wr u ms
  m : MsOf ms (bs.take n)
  g : ∀ (i : Nat) c, i < n → bs[i]? = some c → decE c = 0
  b : Below w.heap.size w wr
  r : Fm.OR w.heap.size wr bv bs
  d : MD ms
def UNR2 (w w' : World) (e : Ending) (bs : List (List UInt8)) (er : Int) : Prop :=
  ∃ v ms, e = .returned (.tuple #[v, .int .i64 (Fm.sz (gds bs) : Nat), .int .i64 (unwE bs er)]) ∧ OMS w.heap.size w' v ms ∧ MsOf ms (gds bs) ∧ Below w.heap.size w w' ∧ MD ms
theorem UIN2.next {w wr w5 : World} {bv u v5 : Value} {bs : List (List UInt8)} {n : Nat} {ms ms' : List Mg} {b : List UInt8} (h : UIN2 w wr bv u bs n ms) (hm : MsOf ms' (bs.take (n + 1))) (ho : OMS w.heap.size w5 v5 ms') (h5 : Below w.heap.size w w5) (hb : bs[n]? = some b) (h0 : decE b = 0) (hrow : Fm.OR w.heap.size w5 bv bs) (hmd : MD ms') : UIN2 w w5 bv v5 bs (n + 1) ms' :=
  ⟨ho, hm, fun i c hi hc => by
    rcases Nat.lt_or_ge i n with h' | h'
    · exact h.g i c h' hc
    · obtain rfl : i = n := by omega
      rw [hb] at hc
      cases hc
      exact h0, h5, hrow, hmd⟩
set_option maxHeartbeats 2000000 in
set_option maxRecDepth 100000 in
theorem unwireD (w : World) (v : Value) (l : List UInt8) (hl : l.length ≤ 16777216) (hr : RB w v l) (hk : KT w) :
    Calls Tryd.prog 7 #[v] w fun e w' => ∃ bs er, (∃ r, Fm.Rd false l [] bs false r er) ∧ UNR2 w w' e bs er := by
  have HR : Hid (RB w v l ∧ KT w) := ⟨hr, hk⟩
  obtain ⟨a, c, rfl, _⟩ := hr
  clear hk
  go_enter Tryd.func7, Tryd.ntmps7
  go_wp2_with fail
  refine (Fm.splitP _ l hl w HR.out.1).mono ?_
  rintro e w1 ⟨bv, bs, er, rfl, hrd, ob, b1⟩
  obtain ⟨va, vc, rfl⟩ := ob.form
  have HB : Hid ((∃ r, Fm.Rd false l [] bs false r er) ∧ Fm.OR w.heap.size w1 (.slice va bs.length vc) bs ∧ KT w ∧ Below w.heap.size w w1) := ⟨hrd, OR.of_ob ob (by obtain ⟨r, hrd⟩ := hrd; exact (hrd.frames rfl).2.2.2.2.2), HR.out.2, b1⟩
  clear hrd ob b1 HR
  go_wp2_with fail
  generalize hln : bs.length = len at *
  have HN : Hid (bs.length = len) := hln
  clear hln
  have hszl : Fm.sz bs ≤ 16777216 := by
    obtain ⟨r, hrd⟩ := HB.out.1
    have h9 := (hrd.frames rfl).2.2.1
    omega
  have hlen : len ≤ 16777216 := by
    have h8 := sz_ge bs
    have := HN.out
    omega
  have HI0 : Hid (UIN2 w w1 (.slice va len vc) (.slice none 0 0) bs 0 []) := ⟨OMS.nil _ _, ⟨rfl, by simp⟩, fun i c hi => by omega, HB.out.2.2.2, HB.out.2.1, MD.nil⟩
  have HK : Hid (KT w) := HB.out.2.2.1
  have HRD : Hid (∃ r, Fm.Rd false l [] bs false r er) := HB.out.1
  clear HB
  generalize hSZ : Fm.sz bs = SZ at *
  have HSZ : Hid (Fm.sz bs = SZ) := hSZ
  clear hSZ
  go_loopw [8, 9, 22] (fun u n9 t wr => ∃ n : Nat, n ≤ len ∧ t = .int .i64 n ∧ n9 = .int .i64 (Fm.sz (bs.take n) : Nat) ∧ Hid (∃ ms, UIN2 w wr (.slice va len vc) u bs n ms)) (fun _ _ t _ => len - (intOf t).toNat)
  case atStart => exact ⟨0, by omega, rfl, rfl, ⟨[], HI0.out⟩⟩
  case round =>
    obtain ⟨n, hn, rfl, rfl, hI⟩ := hrel
    obtain ⟨ms, hU⟩ := hI.out
    by_cases hlt : n < len
    · have hl2 : n < bs.length := by rw [HN.out]; exact hlt
      have hx : bs[n]? = some bs[n] := List.getElem?_eq_getElem hl2
      generalize hbn : bs[n] = b at hx
      have hbl : b.length ≤ 32768 := by
        obtain ⟨r, hrd⟩ := HRD.out
        exact (hrd.frames rfl).2.2.2.2.2 b (List.mem_of_getElem? hx)
      obtain ⟨a', c', e', _, hR⟩ := hU.r.rbs
      simp only [Value.slice.injEq] at e'
      obtain ⟨rfl, -, rfl⟩ := e'
      rcases hR with h | ⟨g, o, rfl, hg, hR⟩
      · rw [h] at hl2; simp at hl2
      obtain ⟨bu, hcu, hbu⟩ := hR n hl2
      have hgd : bs.getD n [] = b := by rw [List.getD_eq_getElem?_getD, hx]; rfl
      rw [hgd] at hbu
      obtain ⟨ba, bc', rfl, _⟩ := id hbu
      have HU : Hid (UIN2 w wr (.slice (some ⟨g, o, none⟩) len vc) u8 bs n ms ∧ RB wr (.slice ba b.length bc') b ∧ bs[n]? = some b ∧ bs.take (n + 1) = bs.take n ++ [b] ∧ Fm.sz (bs.take (n + 1)) ≤ 16777216) := by
        refine ⟨hU, hbu, hx, by rw [List.take_add_one, hx]; rfl, ?_⟩
        have := Fm.sz_take_le bs (n + 1)
        have := HSZ.out
        omega
      have hs9 : Fm.sz (bs.take (n + 1)) = Fm.sz (bs.take n) + (4 + b.length) := by rw [HU.out.2.2.2.1, Fm.sz_snoc]
      have hs8 := HU.out.2.2.2.2
      rw [hs9] at hs8
      have HS9 : Hid (Fm.sz (bs.take (n + 1)) = Fm.sz (bs.take n) + (4 + b.length)) := hs9
      generalize Fm.sz (bs.take n) = S9 at *
      obtain ⟨ua, uc, rfl⟩ := hU.o.form
      have HML : Hid (ms.length < 1073741824) := by
        have h9 := hU.m.1
        rw [List.length_take] at h9
        unfold Hid
        omega
      clear hU hI hR hbu hx hgd hs9 hbn
      go_wp2_with fail
      refine (decodeT wr _ b (by omega) HU.out.2.1 (HK.out.below HU.out.1.b HK.out.pos)).mono ?_
      rintro e w2 ⟨d1, h1, rfl, q1, q2, q3⟩
      have HMD : Hid (MD (ms ++ [mgOf b d1 h1])) := HU.out.1.d.snoc HU.out.1.o (Nat.le_refl _) (fun g e => (World.ownsRow.lt q1 g e).1) (fun g e => by obtain ⟨_, _, hr⟩ := q2; exact (World.ownsRow.lt hr g e).1)
      have M1 : OMg w.heap.size w2 (mgOf b d1 h1) := OMg.of_dec HU.out.1.b.size q1 q2
      have e1 : ({ (decS b).m with d := d1, h := h1 } : Mv) = (mgOf b d1 h1).m := rfl
      rw [e1]
      generalize hmm : mgOf b d1 h1 = mm at *
      have HMM : Hid (mgOf b d1 h1 = mm) := hmm
      clear hmm
      have hz2 := heapNew w2 (.cells z40 27)
      have hi1 := info_msg M1.ok
      have ho1 := M1.ok.one
      have hs1 : z40.size = mm.m.cs.size := M1.ok.size.symm
      have hc := heapSetRow _ _ _ mm.m.cs _ hz2
      have bX : Below w2.heap.size w2 ((w2.alloc (.cells z40 27)).setRow w2.heap.size mm.m.cs) := belowSetRow ((Below.refl _ _).alloc (Nat.le_refl _) _) (Nat.le_refl _) _
      have b9 : Below wr.heap.size wr ((w2.alloc (.cells z40 27)).setRow w2.heap.size mm.m.cs) := q3.trans (bX.mono q3.size)
      by_cases h0 : decE b = 0
      · rw [h0]
        have hsz40 : mm.m.cs.size = 40 := M1.ok.size
        have bZ : Below ((w2.alloc (.cells z40 27)).setRow w2.heap.size mm.m.cs).heap.size ((w2.alloc (.cells z40 27)).setRow w2.heap.size mm.m.cs) (((w2.alloc (.cells z40 27)).setRow w2.heap.size mm.m.cs).alloc (.cells mm.m.cs 27)) := (Below.refl _ _).alloc (Nat.le_refl _) _
        have bT : Below wr.heap.size wr (((w2.alloc (.cells z40 27)).setRow w2.heap.size mm.m.cs).alloc (.cells mm.m.cs 27)) := b9.trans (bZ.mono b9.size)
        have HV : Hid (OMS w.heap.size (((w2.alloc (.cells z40 27)).setRow w2.heap.size mm.m.cs).alloc (.cells mm.m.cs 27)) (.slice ua ms.length uc) ms ∧ OMg w.heap.size (((w2.alloc (.cells z40 27)).setRow w2.heap.size mm.m.cs).alloc (.cells mm.m.cs 27)) mm ∧ (((w2.alloc (.cells z40 27)).setRow w2.heap.size mm.m.cs).alloc (.cells mm.m.cs 27)).heap[((w2.alloc (.cells z40 27)).setRow w2.heap.size mm.m.cs).heap.size]? = some (.cells mm.m.cs 27 (0, 0)) ∧ Below w.heap.size w (((w2.alloc (.cells z40 27)).setRow w2.heap.size mm.m.cs).alloc (.cells mm.m.cs 27)) ∧ Fm.OR w.heap.size (((w2.alloc (.cells z40 27)).setRow w2.heap.size mm.m.cs).alloc (.cells mm.m.cs 27)) (.slice (some ⟨g, o, none⟩) len vc) bs ∧ decE b = 0) := ⟨HU.out.1.o.grow bT, (M1.grow bX).grow bZ, heapNew _ _, HU.out.1.b.trans (bT.mono HU.out.1.b.size), OR.grow HU.out.1.r bT, h0⟩
        clear h0 q1 q2 q3 bX b9 bZ bT M1
        go_wp2_with (first | (refine wpList_store_row rfl 27 _ _ rfl w2.heap.size mm.m.cs rfl rfl 27 z40 hz2 hi1 hs1 ho1 ?_) | (refine wpList_load_row rfl 27 _ rfl w2.heap.size rfl 27 mm.m.cs (0, 0) _ hc Tryd.underlying27 rfl hi1 ?_) | (refine build_msg rfl _ rfl mm.m.cs rfl hsz40 ?_) | (at_builtin; refine append_msg rfl _ _ rfl rfl HV.out.1 ((w2.alloc (.cells z40 27)).setRow w2.heap.size mm.m.cs).heap.size mm rfl HV.out.2.2.1 HV.out.2.1 HV.out.2.2.2.1.size HML.out ?_; intro v5 w5 o5 b5 r5))
        refine ⟨⟨n + 1, by omega, by go_num, by rw [HS9.out]; go_num, ⟨ms ++ [mm], ?_⟩⟩, by simp [intOf]; omega⟩
        have hmS : MsOf (ms ++ [mm]) (bs.take (n + 1)) := by
          rw [HU.out.2.2.2.1, ← HMM.out]
          exact HU.out.1.m.snoc b d1 h1
        exact UIN2.next HU.out.1 hmS o5 (HV.out.2.2.2.1.trans b5) HU.out.2.2.1 HV.out.2.2.2.2.2 (OR.rows HV.out.2.2.2.2.1 r5) HMD.out
      · obtain ⟨ve, hve⟩ : ∃ ve, decE b = ve := ⟨_, rfl⟩
        have HV : Hid (unwE bs er = ve ∧ Fm.sz (gds bs) = S9 ∧ UNX w ((w2.alloc (.cells z40 27)).setRow w2.heap.size mm.m.cs) (.slice ua ms.length uc) ms (gds bs) ∧ MD ms) := by
          have hgs := gds_stop HU.out.2.2.1 HU.out.1.g h0
          have hsn := HU.out.2.2.2.1
          refine ⟨by rw [unwE_stop HU.out.2.2.1 hgs]; exact hve, ?_, ?_, HU.out.1.d⟩
          · rw [hgs]
            have h9 := HS9.out
            rw [hsn, Fm.sz_snoc] at h9
            omega
          · rw [hgs]
            exact ⟨HU.out.1.o.grow b9, HU.out.1.m, HU.out.1.b.trans (b9.mono HU.out.1.b.size)⟩
        rw [hve] at h0 ⊢
        clear q1 q2 q3 bX b9 M1 hve
        go_wp2_with (first | (refine wpList_store_row rfl 27 _ _ rfl w2.heap.size mm.m.cs rfl rfl 27 z40 hz2 hi1 hs1 ho1 ?_))
        go_ret3
        exact ⟨bs, er, HRD.out, _, ms, by rw [HV.out.1, HV.out.2.1]; rfl, HV.out.2.2.1.1, HV.out.2.2.1.2.1, HV.out.2.2.1.2.2, HV.out.2.2.2⟩
    · obtain rfl : n = len := by omega
      have HV : Hid (unwE bs er = er ∧ Fm.sz (gds bs) = SZ ∧ UNX w wr u8 ms (gds bs) ∧ MD ms) := by
        have htk : bs.take n = bs := List.take_of_length_le (by have := HN.out; omega)
        have hga : gds bs = bs := gds_all fun i c hc => hU.g i c (by have := (List.getElem?_eq_some_iff.1 hc).1; have := HN.out; omega) hc
        have h8 := hU.m
        rw [htk] at h8
        refine ⟨unwE_all hga, by rw [hga]; exact HSZ.out, ?_, hU.d⟩
        rw [hga]
        exact ⟨hU.o, h8, hU.b⟩
      clear hU hI
      go_wp2
      go_ret3
      exact ⟨bs, er, HRD.out, _, ms, by rw [HV.out.1, HV.out.2.1]; rfl, HV.out.2.2.1.1, HV.out.2.2.1.2.1, HV.out.2.2.1.2.2, HV.out.2.2.2⟩
end Go.Proofs.YtpembmfpgolniaaDoor
namespace Go.Proofs.YtpembmfpgolniaaDoor
open Go.RowKit
theorem OW.blk {B : Nat} {w : World} {v : Value} {l : List UInt8} (h : OW B w v l) : ∀ g, v.ownBlock = some g → B ≤ g ∧ g < w.heap.size := fun g hg => World.ownsRow.lt h g hg
theorem OW.at {B : Nat} {w : World} {g n cap : Nat} {l : List UInt8} (h : OW B w (.slice (some ⟨g, 0, none⟩) n cap) l) (k : Nat) (hk : k < l.length) : w.cell? ⟨g, k, none⟩ = some (.int .u8 ((byt l k).toNat : Int)) ∧ w.frozen? ⟨g, k, none⟩ = false := by
  constructor
  · obtain ⟨a', c', e, _, hh⟩ := h.rb
    simp only [Value.slice.injEq] at e
    obtain ⟨rfl, _, _⟩ := e
    rcases hh with hh | ⟨g', o', e', _, hh⟩
    · subst hh; simp at hk
    simp only [Option.some.injEq, Addr.mk.injEq] at e'
    obtain ⟨rfl, rfl, _⟩ := e'
    have := hh k hk
    rwa [Nat.zero_add] at this
  · rcases h.2 with ⟨e, _⟩ | ⟨g', cap', cur, e, _, h3, _⟩
    · cases e
    · cases e
      simp [World.frozen?, h3]
theorem OW.put {B : Nat} {w : World} {g n cap : Nat} {l : List UInt8} (h : OW B w (.slice (some ⟨g, 0, none⟩) n cap) l) (k : Nat) (c : UInt8) : OW B (w.setCell ⟨g, k, none⟩ (.int .u8 (c.toNat : Int))) (.slice (some ⟨g, 0, none⟩) n cap) (l.set k c) := by
  rcases h.2 with ⟨e, _⟩ | ⟨g', cap', cur, e, h2, h3, h4, h5, h6, h7⟩
  · cases e
  simp only [Value.slice.injEq, Option.some.injEq, Addr.mk.injEq] at e
  obtain ⟨⟨rfl, _⟩, rfl, rfl⟩ := e
  refine ⟨by simp [Lib.byteCells], .inr ⟨g, cap, cur.setIfInBounds k (.int .u8 (c.toNat : Int)), by rw [List.length_set], h2, heap_setCell_same w g k cur 5 _ h3, by rw [List.length_set]; exact h4, h5, by simpa using h6, ?_⟩⟩
  rw [List.length_set, Array.toList_setIfInBounds, List.take_set, h7]
  simp [Lib.byteCells, List.map_set]
theorem bel_fr {B : Nat} {w wr w' : World} {T : Nat → Prop} (h : Below B w wr) (f : Fm.Fr T wr w') (hT : ∀ k, k < B → T k) (hB : B ≤ w.heap.size) : Below B w w' :=
  ⟨f.os.trans h.os, f.tape.trans h.tape, f.output.trans h.output, Nat.le_trans h.size f.size, fun k hk => (f.block k (Nat.lt_of_lt_of_le hk (Nat.le_trans hB h.size)) (hT k hk)).trans (h.block k hk)⟩
theorem gds_len (bs : List (List UInt8)) : (gds bs).length ≤ bs.length := (List.takeWhile_sublist _).length_le
theorem encB_same (m : Mv) (d h : Value) (D hb : List UInt8) (e1 : sln d = sln m.d) (e2 : sln h = sln m.h) : encB { m with d := d, h := h } D hb = encB m D hb := by
  unfold encB
  rw [valE_same m d h e1 e2]
  have hl : ∀ cs, lays cs { m with d := d, h := h } D hb = lays cs m D hb := by
    intro cs
    unfold lays
    congr 2
  simp only [hl]
theorem rms_one {w : World} {x : Mg} (h : MM w x.m x.D x.hb) : RMS (w.alloc (.cells x.m.cs 27)) (.slice (some ⟨w.heap.size, 0, none⟩) 1 1) [x] := by
  refine ⟨some ⟨w.heap.size, 0, none⟩, 1, rfl, Nat.le_refl _, .inr ⟨w.heap.size, 0, rfl, by simp, fun i y hy j u hu => ?_⟩, fun y hy => ?_⟩
  · match i, hy with
    | 0, hy =>
      simp at hy
      subst hy
      rw [Nat.zero_add, cellH2 (heapNew _ _)]
      unfold Mv.cs
      simpa using hu
  · simp at hy
    subst hy
    exact h.keep ((Below.refl _ _).alloc (Nat.le_refl _) _)
theorem xor1_lt (x : Int) (h0 : 0 ≤ x) (h1 : x < 256) : 0 ≤ bits .xor .u8 x 1 ∧ bits .xor .u8 x 1 < 256 := by
  rw [u8_xor x 1 h0 h1 (by omega) (by omega)]
  have : x.toNat ^^^ (1 : Int).toNat < 2 ^ 8 := Nat.xor_lt_two_pow (by omega) (by decide)
  omega
/-- a message is loaded behind a guard that lets it through -/
theorem load_msg_if {ops : Array Oper} {rest : List Oper} {o : Oper} {a : Act} {w : World} {Q : Exit → Act → World → Prop} (hw : Region.wanted o (yielded ops a.tmps) = true) (x : Operand) (ho : o.op = .load 27 x)
    (g : Nat) (hx : a.eval x = .pointer (some ⟨g, 0, none⟩)) (cs : Array Value) (hg : w.heap[g]? = some (.cells cs 27 (0, 0))) (hi : (Tryd.prog.info? 27).map (·.size) = some cs.size)
    (h : wpList Tryd.prog ops Q rest (a.put o.dst (.agg cs)) w) : wpList Tryd.prog ops Q (o :: rest) a w := by
  unfold wpList
  rw [if_pos hw]
  exact .inl (wp_load_row 27 x ho g hx 27 cs (0, 0) _ hg Tryd.underlying27 rfl hi h)
/-- what the writing over keeps -/
def AN (w : World) (B : Nat) (tv : Value) (n : Nat) (wr : World) : Prop := Fm.Fr (fun k => tv.ownBlock ≠ some k) w wr ∧ ∃ l : List UInt8, l.length = n ∧ OW B wr tv l
theorem AN.at {w wr : World} {B n ca : Nat} {a : Option Addr} (h : AN w B (.slice a n ca) n wr) (i : Nat) (hi : i < n) : ∃ g x, a = some ⟨g, 0, none⟩ ∧ (0 : Int) ≤ x ∧ x < 256 ∧ wr.cell? ⟨g, i, none⟩ = some (.int .u8 x) ∧ wr.frozen? ⟨g, i, none⟩ = false ∧ ∀ z : Int, 0 ≤ z → z < 256 → AN w B (.slice a n ca) n (wr.setCell ⟨g, i, none⟩ (.int .u8 z)) := by
  obtain ⟨f, m, hm, ho⟩ := h
  have ho' := ho
  rcases ho.2 with ⟨e, _⟩ | ⟨g, cap, cur, e, _⟩
  · rw [Value.slice.injEq] at e; omega
  rw [Value.slice.injEq] at e
  obtain ⟨rfl, _, rfl⟩ := e
  obtain ⟨q1, q2⟩ := ho'.at i (by omega)
  refine ⟨g, _, rfl, by omega, by have := (byt m i).toNat_lt; omega, q1, q2, fun z h0 h1 => ⟨f.setCell g i _ (fun x => x rfl), m.set i (UInt8.ofNat z.toNat), by rw [List.length_set]; exact hm, ?_⟩⟩
  have ez : z = (((UInt8.ofNat z.toNat).toNat : Nat) : Int) := by rw [UInt8.toNat_ofNat', Nat.mod_eq_of_lt (by omega)]; omega
  have := ho'.put i (UInt8.ofNat z.toNat)
  rw [← ez] at this
  exact this
set_option maxHeartbeats 4000000 in
set_option maxRecDepth 100000 in
theorem anewT (w : World) (tv : Value) (l : List UInt8) (B : Nat) (m : Mv) (D hb : List UInt8) (ho : OW B w tv l) (hB : 0 < B) (hBs : B ≤ w.heap.size) (hm : ∀ w', Fm.Fr (fun k => tv.ownBlock ≠ some k) w w' → MM w' m D hb) (hk : KT w) (hl : l.length ≤ 16777216) :
    Calls Tryd.prog 16 #[tv, .agg m.cs] w fun e w' => e = .returned (.bool true) ∧ Fm.Fr (fun k => tv.ownBlock ≠ some k) w w' := by
  have b0 : Below w.heap.size w (w.alloc (.cells m.cs 27)) := (Below.refl _ _).alloc (Nat.le_refl _) _
  obtain ⟨a, ca, rfl⟩ := ho.form
  have HA : Hid (AN w B (.slice a l.length ca) l.length (w.alloc (.cells m.cs 27)) ∧ KT w ∧ 0 < B ∧ B ≤ w.heap.size ∧ (∀ k, (Value.slice a l.length ca).ownBlock = some k → B ≤ k ∧ k < w.heap.size)) := ⟨⟨Fm.Fr.of_below b0, l, rfl, ho.alloc _⟩, hk, hB, hBs, ho.blk⟩
  have HM : Hid (∀ w', Fm.Fr (fun k => (Value.slice a l.length ca).ownBlock ≠ some k) w w' → MM w' m D hb) := hm
  have HMB : Hid (MB (w.alloc (.cells m.cs 27)) w.heap.size m) := heapNew w _
  have ok : m.ok := (hm w (Fm.Fr.refl _ _)).ok
  have hc := HMB.out.cells
  have him := info_msg ok
  clear ho hm hk hB hBs b0
  generalize l.length = n at *
  go_enter Tryd.func16, Tryd.ntmps16
  go_wp2
  generalize hW : w.alloc (.cells m.cs 27) = W at *
  go_loopw [5] (fun t wr => ∃ i : Nat, i ≤ n ∧ t = .int .i64 i ∧ Hid (AN w B (.slice a n ca) n wr ∧ MB wr w.heap.size m)) (fun t _ => n - (intOf t).toNat)
  case atStart => exact ⟨0, Nat.zero_le _, rfl, HA.out.1, HMB.out⟩
  case round =>
    obtain ⟨i, hi, rfl, H⟩ := hrel
    by_cases hlt : i < n
    · obtain ⟨g, x, hae, hx0, hx1, hc0, hf0, hz⟩ := H.out.1.at i hlt
      subst hae
      have hgl := (HA.out.2.2.2.2 g rfl).2
      have HZ : Hid (∀ z : Int, 0 ≤ z → z < 256 → AN w B (.slice (some ⟨g, 0, none⟩) n ca) n (wr.setCell ⟨g, i, none⟩ (.int .u8 z)) ∧ MB (wr.setCell ⟨g, i, none⟩ (.int .u8 z)) w.heap.size m) := fun z h0 h1 => ⟨hz z h0 h1, H.out.2.besides (Besides.setCell _ _ _ _) (by omega)⟩
      clear hz H HA
      have hxr := xor1_lt x hx0 hx1
      go_wp2
      exact ⟨⟨i + 1, by omega, by go_num, HZ.out _ hxr.1 hxr.2⟩, by simp [intOf]; omega⟩
    · obtain ⟨⟨hf, l2, hl2, ho⟩, hmb⟩ := H.out
      have BB : Below B w wr := bel_fr (Below.refl B w) hf (fun k hk e => by have := (HA.out.2.2.2.2 k e).1; omega) HA.out.2.2.2.1
      have HS : Hid (RB wr (.slice a n ca) l2 ∧ MM wr m D hb ∧ KT wr ∧ MB wr w.heap.size m ∧ Fm.Fr (fun k => (Value.slice a n ca).ownBlock ≠ some k) w wr ∧ l2.length ≤ 16777216) := ⟨ho.rb, HM.out wr hf, HA.out.2.1.below BB HA.out.2.2.1, hmb, hf, by omega⟩
      have JT : Hid (Calls Tryd.prog 5 #[.slice a n ca, .slice none 0 0] wr fun e w' => ∃ v, e = .returned v ∧ OW wr.heap.size w' v (l2 ++ []) ∧ Below wr.heap.size wr w') := joinedT wr _ _ l2 [] ho.rb ⟨none, 0, rfl, Nat.le_refl _, .inl rfl⟩ (by simp; omega)
      obtain ⟨w0, hw0⟩ : ∃ x, x = wr := ⟨_, rfl⟩
      subst hw0
      clear hf hl2 ho hmb BB H HA HM HMB hc hW
      go_wp2_with fail
      refine JT.out.mono ?_
      rintro e w1 ⟨ov, rfl, o1, b1⟩
      rw [List.append_nil] at o1
      obtain ⟨oa, oc, rfl⟩ := o1.form
      have DA : Hid (Calls Tryd.prog 6 #[.slice a n ca] w1 fun e w' => DCR w1 w' e l2) := decodeT w1 _ l2 (by have := HS.out.2.2.2.2.2; omega) (HS.out.1.keep b1) (HS.out.2.2.1.below b1 HS.out.2.2.1.pos)
      have H1 : Hid (RB w1 (.slice oa l2.length oc) l2 ∧ Below w0.heap.size w0 w1) := ⟨o1.rb, b1⟩
      clear JT o1 b1
      go_wp2_with fail
      refine DA.out.mono ?_
      rintro e w2 ⟨d1, h1, rfl, q1, q2, q3⟩
      have M1 := MM.of_dec q1 q2
      obtain ⟨mA, hmA, e1⟩ : ∃ x : Mv, ({ (decS l2).m with d := d1, h := h1 } : Mv) = x ∧ x = { (decS l2).m with d := x.d, h := x.h } := ⟨_, rfl, rfl⟩
      rw [hmA] at M1 ⊢
      clear hmA
      have hz2 := heapNew w2 (.cells z40 27)
      have hi1 := info_msg M1.ok
      have ho1 := M1.ok.one
      have hs1 : z40.size = mA.cs.size := M1.ok.size.symm
      have hcA := heapSetRow _ _ _ mA.cs _ hz2
      have bX : Below w2.heap.size w2 ((w2.alloc (.cells z40 27)).setRow w2.heap.size mA.cs) := belowSetRow ((Below.refl _ _).alloc (Nat.le_refl _) _) (Nat.le_refl _) _
      obtain ⟨X2, hX2⟩ : ∃ X, X = (w2.alloc (.cells z40 27)).setRow w2.heap.size mA.cs := ⟨_, rfl⟩
      have HX2 : Hid (X2 = (w2.alloc (.cells z40 27)).setRow w2.heap.size mA.cs) := hX2
      rw [← hX2] at hcA bX
      have B12 : Below w1.heap.size w1 X2 := q3.trans (bX.mono q3.size)
      have B02 : Below w0.heap.size w0 X2 := H1.out.2.trans (B12.mono H1.out.2.size)
      have H2 : Hid (MM X2 mA (decS l2).D (decS l2).hb ∧ mA = { (decS l2).m with d := mA.d, h := mA.h } ∧ MB X2 w2.heap.size mA ∧ RB X2 (.slice oa l2.length oc) l2 ∧ Below w0.heap.size w0 X2) := ⟨M1.keep bX, e1, hcA, H1.out.1.keep B12, B02⟩
      have DB : Hid (Calls Tryd.prog 6 #[.slice oa l2.length oc] X2 fun e w' => DCR X2 w' e l2) := decodeT X2 _ l2 (by have := HS.out.2.2.2.2.2; omega) H2.out.2.2.2.1 (HS.out.2.2.1.below B02 HS.out.2.2.1.pos)
      clear q1 q2 q3 e1 M1 hcA bX B12 B02 H1 DA hX2
      go_wp2_with (first | (refine wpList_store_row rfl 27 _ _ rfl w2.heap.size mA.cs rfl rfl 27 z40 hz2 hi1 hs1 ho1 ?_))
      rw [← HX2.out]
      clear hz2 hi1 ho1 hs1 HX2
      refine DB.out.mono ?_
      rintro e w3 ⟨d2, h2, rfl, q1, q2, q3⟩
      have M3 := MM.of_dec q1 q2
      obtain ⟨mB, hmB, e3⟩ : ∃ x : Mv, ({ (decS l2).m with d := d2, h := h2 } : Mv) = x ∧ x = { (decS l2).m with d := x.d, h := x.h } := ⟨_, rfl, rfl⟩
      rw [hmB] at M3 ⊢
      clear hmB
      have hz3 := heapNew w3 (.cells z40 27)
      have hi3 := info_msg M3.ok
      have ho3 := M3.ok.one
      have hs3 : z40.size = mB.cs.size := M3.ok.size.symm
      have hcB := heapSetRow _ _ _ mB.cs _ hz3
      have bX : Below w3.heap.size w3 ((w3.alloc (.cells z40 27)).setRow w3.heap.size mB.cs) := belowSetRow ((Below.refl _ _).alloc (Nat.le_refl _) _) (Nat.le_refl _) _
      obtain ⟨X3, hX3⟩ : ∃ X, X = (w3.alloc (.cells z40 27)).setRow w3.heap.size mB.cs := ⟨_, rfl⟩
      have HX3 : Hid (X3 = (w3.alloc (.cells z40 27)).setRow w3.heap.size mB.cs) := hX3
      rw [← hX3] at hcB bX
      have B23 : Below X2.heap.size X2 X3 := q3.trans (bX.mono q3.size)
      have B03 : Below w0.heap.size w0 X3 := H2.out.2.2.2.2.trans (B23.mono H2.out.2.2.2.2.size)
      have H3 : Hid (MM X3 mA (decS l2).D (decS l2).hb ∧ MM X3 mB (decS l2).D (decS l2).hb ∧ mB = { mA with d := mB.d, h := mB.h } ∧ MB X3 w2.heap.size mA ∧ MB X3 w3.heap.size mB ∧ RB X3 (.slice oa l2.length oc) l2 ∧ Below w0.heap.size w0 X3) := ⟨H2.out.1.keep B23, M3.keep bX, by rw [H2.out.2.1]; exact e3, H2.out.2.2.1.below B23, hcB, H2.out.2.2.2.1.keep B23, B03⟩
      have UA : Hid (Calls Tryd.prog 7 #[.slice a n ca] X3 fun e w' => ∃ bs er, (∃ r, Fm.Rd false l2 [] bs false r er) ∧ UNR X3 w' e bs er) := unwireT X3 _ l2 HS.out.2.2.2.2.2 (HS.out.1.keep B03) (HS.out.2.2.1.below B03 HS.out.2.2.1.pos)
      clear q1 q2 q3 e3 M3 hcB bX B23 B03 H2 DB hX3
      go_wp2_with (first | (refine wpList_store_row rfl 27 _ _ rfl w3.heap.size mB.cs rfl rfl 27 z40 hz3 hi3 hs3 ho3 ?_))
      rw [← HX3.out]
      clear hz3 hi3 ho3 hs3 HX3
      refine UA.out.mono ?_
      rintro e w4 ⟨bs, er, ⟨r1, R1⟩, v4, ms4, rfl, o4, of4, b4⟩
      obtain ⟨ma4, mc4, rfl⟩ := o4.form
      have B04 : Below w0.heap.size w0 w4 := H3.out.2.2.2.2.2.2.trans (b4.mono H3.out.2.2.2.2.2.2.size)
      have H4 : Hid (OMS X3.heap.size w4 (.slice ma4 ms4.length mc4) ms4 ∧ MsOf ms4 (gds bs) ∧ Fm.Rd false l2 [] bs false r1 er ∧ Below X3.heap.size X3 w4 ∧ Below w0.heap.size w0 w4) := ⟨o4, of4, R1, b4, B04⟩
      have UB : Hid (Calls Tryd.prog 7 #[.slice oa l2.length oc] w4 fun e w' => ∃ bs er, (∃ r, Fm.Rd false l2 [] bs false r er) ∧ UNR w4 w' e bs er) := unwireT w4 _ l2 HS.out.2.2.2.2.2 (H3.out.2.2.2.2.2.1.keep b4) (HS.out.2.2.1.below B04 HS.out.2.2.1.pos)
      clear UA R1 o4 of4 b4 B04
      go_wp2_with fail
      refine UB.out.mono ?_
      rintro e w5 ⟨bs', er', ⟨r2, R2⟩, v5, ms5, rfl, o5, of5, b5⟩
      obtain ⟨_, rfl, _, _, rfl⟩ := R2.det H4.out.2.2.1
      obtain ⟨ma5, mc5, rfl⟩ := o5.form
      have B35 : Below X3.heap.size X3 w5 := H4.out.2.2.2.1.trans (b5.mono H4.out.2.2.2.1.size)
      have H5 : Hid (RMS w5 (.slice ma4 ms4.length mc4) ms4 ∧ RMS w5 (.slice ma5 ms5.length mc5) ms5 ∧ MsEq ms4 ms5 ∧ MM w5 mA (decS l2).D (decS l2).hb ∧ MM w5 mB (decS l2).D (decS l2).hb ∧ MB w5 w2.heap.size mA ∧ MB w5 w3.heap.size mB ∧ Below w0.heap.size w0 w5) := ⟨(H4.out.1.grow b5).rms, o5.rms, H4.out.2.1.eq of5, H3.out.1.keep B35, H3.out.2.1.keep B35, H3.out.2.2.2.1.below B35, H3.out.2.2.2.2.1.below B35, H4.out.2.2.2.2.trans (b5.mono H4.out.2.2.2.2.size)⟩
      have HEQ : Hid (mB = { mA with d := mB.d, h := mB.h }) := H3.out.2.2.1
      have HML : Hid (ms4.length ≤ 140737488351232) := by
        have h1 := H4.out.2.1.1
        have h2 := gds_len bs
        have h3 := sz_ge bs
        have h4 := (H4.out.2.2.1.frames rfl).2.2.1
        have h5 := HS.out.2.2.2.2.2
        show _ ≤ _
        omega
      have hiA := info_msg H5.out.2.2.2.1.ok
      have hiB := info_msg H5.out.2.2.2.2.1.ok
      have gA := H5.out.2.2.2.2.2.1.cells
      have gB := H5.out.2.2.2.2.2.2.1.cells
      clear UB o5 of5 b5 B35 R2 H3 H4
      go_wp2_with fail
      refine (numLT w5 _).mono ?_
      rintro e wx ⟨rfl, rfl⟩
      go_wp2_with fail
      refine (numLT w5 _).mono ?_
      rintro e wx ⟨rfl, rfl⟩
      have SMA : Hid (Calls Tryd.prog 11 #[.agg mA.cs, .agg mB.cs] w5 fun e w' => e = .returned (.bool true) ∧ Below w5.heap.size w5 w') := msameT w5 mA mB _ _ H5.out.2.2.2.1 H5.out.2.2.2.2.1 HEQ.out
      go_wp2_with (first | (refine load_msg_if rfl _ rfl w2.heap.size rfl mA.cs gA hiA ?_) | (refine load_msg_if rfl _ rfl w3.heap.size rfl mB.cs gB hiB ?_))
      refine SMA.out.mono ?_
      rintro e w6 ⟨rfl, b6⟩
      have H6 : Hid (RMS w6 (.slice ma4 ms4.length mc4) ms4 ∧ RMS w6 (.slice ma5 ms5.length mc5) ms5 ∧ MsEq ms4 ms5 ∧ Below w0.heap.size w0 w6 ∧ ms4.length ≤ 140737488351232) := ⟨H5.out.1.keep b6, H5.out.2.1.keep b6, H5.out.2.2.1, H5.out.2.2.2.2.2.2.2.trans (b6.mono H5.out.2.2.2.2.2.2.2.size), HML.out⟩
      clear SMA H5 HEQ hiA hiB gA gB b6
      go_wp2_with fail
      refine (numLT w6 _).mono ?_
      rintro e wx ⟨rfl, rfl⟩
      go_wp2_with fail
      refine (numLT w6 _).mono ?_
      rintro e wx ⟨rfl, rfl⟩
      have RSM : Hid (Calls Tryd.prog 15 #[.slice ma4 ms4.length mc4, .slice ma5 ms5.length mc5] w6 fun e w' => e = .returned (.bool true) ∧ Below w6.heap.size w6 w') := rowSameT w6 _ _ ms4 ms5 H6.out.1 H6.out.2.1 H6.out.2.2.1 H6.out.2.2.2.2
      go_wp2_with fail
      refine RSM.out.mono ?_
      rintro e w7 ⟨rfl, b7⟩
      have B07 : Below w0.heap.size w0 w7 := H6.out.2.2.2.1.trans (b7.mono H6.out.2.2.2.1.size)
      have H7 : Hid (MM w7 m D hb ∧ KT w7 ∧ MB w7 w.heap.size m ∧ Fm.Fr (fun k => (Value.slice a n ca).ownBlock ≠ some k) w w7) := ⟨HS.out.2.1.keep B07, HS.out.2.2.1.below B07 HS.out.2.2.1.pos, HS.out.2.2.2.1.below B07, HS.out.2.2.2.2.1.trans (Fm.Fr.of_below B07) (fun _ _ x => x)⟩
      clear RSM H6 b7 B07 HS
      have hc7 := H7.out.2.2.1.cells
      have hz7 := heapNew w7 (.cells z40 27)
      have ho7 := ok.one
      have hs7 : z40.size = m.cs.size := ok.size.symm
      have hg7 : MB ((w7.alloc (.cells z40 27)).setRow w7.heap.size m.cs) w7.heap.size m := heapSetRow _ _ _ m.cs _ hz7
      have bX : Below w7.heap.size w7 ((w7.alloc (.cells z40 27)).setRow w7.heap.size m.cs) := belowSetRow ((Below.refl _ _).alloc (Nat.le_refl _) _) (Nat.le_refl _) _
      have hc7b : (w7.alloc (.cells z40 27)).heap[w.heap.size]? = some (.cells m.cs 27 (0, 0)) := (heapOld _ _ _ H7.out.2.2.1.lt).trans hc7
      obtain ⟨X8, hX8⟩ : ∃ X, X = (w7.alloc (.cells z40 27)).setRow w7.heap.size m.cs := ⟨_, rfl⟩
      have HX8 : Hid (X8 = (w7.alloc (.cells z40 27)).setRow w7.heap.size m.cs) := hX8
      rw [← hX8] at hg7 bX
      have hGl : w.heap.size < w7.heap.size := H7.out.2.2.1.lt
      have H8 : Hid (MB X8 w.heap.size m ∧ MB X8 w7.heap.size m ∧ Below w7.heap.size w7 X8 ∧ w.heap.size < w7.heap.size) := ⟨H7.out.2.2.1.below bX, hg7, bX, hGl⟩
      have m4 := H8.out.1.c4
      have JD : Hid (Calls Tryd.prog 5 #[m.d, .slice none 0 0] X8 fun e w' => ∃ v, e = .returned v ∧ OW X8.heap.size w' v (D ++ []) ∧ Below X8.heap.size X8 w') := joinedT X8 _ _ D [] (H7.out.1.keep bX).d ⟨none, 0, rfl, Nat.le_refl _, .inl rfl⟩ (by have := H7.out.1.dl; simp; omega)
      obtain ⟨da0, dn0, dc0, hmd⟩ := ok.d
      have HMD : Hid (m.d = .slice da0 dn0 dc0) := hmd
      rw [hmd] at m4 JD
      clear hX8 hg7 bX hGl hmd
      go_wp2_with (first | (refine wpList_load_row rfl 27 _ rfl w.heap.size rfl 27 m.cs (0, 0) _ hc7 Tryd.underlying27 rfl him ?_) | (refine wpList_load_row rfl 27 _ rfl w.heap.size rfl 27 m.cs (0, 0) _ hc7b Tryd.underlying27 rfl him ?_) | (refine wpList_store_row rfl 27 _ _ rfl w7.heap.size m.cs rfl rfl 27 z40 hz7 him hs7 ho7 ?_; rw [← HX8.out]))
      refine JD.out.mono ?_
      rintro e w9 ⟨dv, rfl, o9, b9⟩
      rw [List.append_nil] at o9
      obtain ⟨da, dc, rfl⟩ := o9.form
      have G9 := H8.out.2.1.below b9
      have a4 := G9.c4
      have f4 := G9.free 4
      rw [HMD.out] at a4
      obtain ⟨XA, hXA⟩ : ∃ X, X = w9.setCell ⟨w7.heap.size, 4, none⟩ (.slice da D.length dc) := ⟨_, rfl⟩
      have HXA : Hid (XA = w9.setCell ⟨w7.heap.size, 4, none⟩ (.slice da D.length dc)) := hXA
      have okA : Mv.ok { m with d := .slice da D.length dc } := ⟨ok.r, ⟨_, _, _, rfl⟩, ok.h⟩
      have bA : Below w7.heap.size w7 XA := by rw [hXA]; exact (H8.out.2.2.1.trans (b9.mono H8.out.2.2.1.size)).setCell (Nat.le_refl _) _
      have HA1 : Hid (MB XA w.heap.size m ∧ MB XA w7.heap.size { m with d := .slice da D.length dc } ∧ Below w7.heap.size w7 XA ∧ OW (w7.heap.size + 1) XA (.slice da D.length dc) D) := by
        have h78 : w7.heap.size < X8.heap.size := H8.out.2.1.lt
        refine ⟨?_, ?_, bA, ?_⟩
        · rw [hXA]; exact (H8.out.1.below b9).besides (Besides.setCell _ _ _ _) (by have := H8.out.2.2.2; omega)
        · rw [hXA]; exact G9.set 4 _ rfl
        · rw [hXA]; exact ownsRow_setCell_below (ownsRow_mono o9 (by omega)) (by show w7.heap.size < _; omega) _
      clear JD o9 b9 G9 hXA bA m4 hc7 hz7 ho7 hs7 hc7b
      go_upto_region 14 with fail
      rw [← HXA.out]
      clear a4 f4 HXA H8
      have a39 := HA1.out.2.1.c39 okA
      have f39 := HA1.out.2.1.free 39
      obtain ⟨ha0, hn0, hc0, hmh⟩ := ok.h
      have HMH : Hid (m.h = .slice ha0 hn0 hc0) := hmh
      simp only [hmh] at a39
      clear hmh
      obtain ⟨XB, hXB⟩ : ∃ X, X = XA.setCell ⟨w7.heap.size, 39, none⟩ (.slice none 0 0) := ⟨_, rfl⟩
      have HXB : Hid (XB = XA.setCell ⟨w7.heap.size, 39, none⟩ (.slice none 0 0)) := hXB
      have okB : Mv.ok { m with d := .slice da D.length dc, h := .slice none 0 0 } := ⟨ok.r, ⟨_, _, _, rfl⟩, ⟨_, _, _, rfl⟩⟩
      have HB1 : Hid (MB XB w.heap.size m ∧ MB XB w7.heap.size { m with d := .slice da D.length dc, h := .slice none 0 0 } ∧ Below w7.heap.size w7 XB ∧ OW (w7.heap.size + 1) XB (.slice da D.length dc) D ∧ w7.heap.size < XB.heap.size) := by
        rw [hXB]
        exact ⟨HA1.out.1.besides (Besides.setCell _ _ _ _) (by have := H7.out.2.2.1.lt; omega), HA1.out.2.1.set 39 _ (Mv.set39 okA _), HA1.out.2.2.1.setCell (Nat.le_refl _) _, ownsRow_setCell_below HA1.out.2.2.2 (by show w7.heap.size < _; omega) _, by simp; exact HA1.out.2.1.lt⟩
      go_upto_region 15 with fail
      rw [← HXB.out]
      clear a39 f39 HXB hXB HA1
      have a39 : XB.cell? ⟨w7.heap.size, 39, none⟩ = some (.slice none 0 0) := HB1.out.2.1.c39 okB
      have f39 := HB1.out.2.1.free 39
      have m39 := HB1.out.1.c39 ok
      rw [HMH.out] at m39
      have hlt2 : w7.heap.size < XB.heap.size := HB1.out.2.2.2.2
      have HH : Hid (RH XB (.slice ha0 hn0 hc0) hb ∧ hb.length ≤ 140737488351232) := by
        rw [← HMH.out]
        exact ⟨(H7.out.1.keep HB1.out.2.2.1).h, H7.out.1.hl⟩
      go_upto_region 16 with (first | (at_builtin; refine append_hashes rfl _ _ rfl rfl rfl HH.out.1 HH.out.2 ?_; intro h' X5 o5 b5; obtain ⟨ha, hn, hc, rfl, _⟩ := o5.rh; have t4 := (b5.cell (p := ⟨w7.heap.size, 39, none⟩) hlt2).trans a39; have t5 := (b5.frozen (p := ⟨w7.heap.size, 39, none⟩) hlt2).trans f39))
      obtain ⟨X6, hX6⟩ : ∃ X, X = X5.setCell ⟨w7.heap.size, 39, none⟩ (.slice ha hn hc) := ⟨_, rfl⟩
      rw [← hX6]
      obtain ⟨mx, hmx, exm⟩ : ∃ x : Mv, x = { m with d := .slice da D.length dc, h := .slice ha hn hc } ∧ x = { m with d := x.d, h := x.h } := ⟨_, rfl, rfl⟩
      have H9 : Hid (MM X6 m D hb ∧ MM X6 mx D hb ∧ MB X6 w.heap.size m ∧ MB X6 w7.heap.size mx ∧ KT X6 ∧ Below w7.heap.size w7 X6) := by
        have b75 : Below w7.heap.size w7 X5 := HB1.out.2.2.1.trans (b5.mono (Nat.le_of_lt hlt2))
        have b76 : Below w7.heap.size w7 X6 := by rw [hX6]; exact b75.setCell (Nat.le_refl _) _
        obtain ⟨n5, hn5, hown⟩ := o5
        have od : OW (w7.heap.size + 1) X6 (.slice da D.length dc) D := by rw [hX6]; exact ownsRow_setCell_below (OW.grow HB1.out.2.2.2.1 b5) (by show w7.heap.size < _; omega) _
        have oh : OH (w7.heap.size + 1) X6 (.slice ha hn hc) hb := by rw [hX6]; exact ⟨n5, hn5, ownsRow_setCell_below (ownsRow_mono hown (by omega)) (by show w7.heap.size < _; omega) _⟩
        refine ⟨H7.out.1.keep b76, ?_, ?_, ?_, H7.out.2.1.below b76 H7.out.2.1.pos, b76⟩
        · rw [hmx]
          exact ⟨⟨ok.r, ⟨_, _, _, rfl⟩, ⟨_, _, _, rfl⟩⟩, od.rb, oh.rh, H7.out.1.dl, H7.out.1.hl⟩
        · rw [hX6]; exact (HB1.out.1.below b5).besides (Besides.setCell _ _ _ _) (by have := H7.out.2.2.1.lt; omega)
        · rw [hX6, hmx]; exact (HB1.out.2.1.below b5).set 39 _ (Mv.set39 okB _)
      have HEX : Hid (valE mx = valE m ∧ encB mx D hb = encB m D hb) := by
        have e1 : sln mx.d = sln m.d := H9.out.2.1.sd.trans H9.out.1.sd.symm
        have e2 : sln mx.h = sln m.h := by have h1 := H9.out.2.1.sh; have h2 := H9.out.1.sh; omega
        rw [exm]
        exact ⟨valE_same m _ _ e1 e2, encB_same m _ _ D hb e1 e2⟩
      have ES : Hid (Calls Tryd.prog 8 #[.agg m.cs] X6 fun e w' => ∃ v, e = .returned (.tuple #[v, .int .i64 (valE m)]) ∧ OW X6.heap.size w' v (encB m D hb) ∧ Below X6.heap.size X6 w') := encodeT X6 m D hb H9.out.1 H9.out.2.2.2.2.1
      have gm := H9.out.2.2.1.cells
      clear t4 t5 o5 b5 hX6 hmx exm HB1 a39 f39 m39 hlt2 HH okA okB HMD HMH
      go_wp2_with (first | (refine wpList_load_row rfl 27 _ rfl w.heap.size rfl 27 m.cs (0, 0) _ gm Tryd.underlying27 rfl him ?_))
      refine ES.out.mono ?_
      rintro e wA ⟨sv, rfl, oA, bA⟩
      obtain ⟨sa, sc, rfl⟩ := oA.form
      have hix := info_msg H9.out.2.1.ok
      have gx := (H9.out.2.2.2.1.below bA).cells
      have EX : Hid (Calls Tryd.prog 8 #[.agg mx.cs] wA fun e w' => ∃ v, e = .returned (.tuple #[v, .int .i64 (valE m)]) ∧ OW wA.heap.size w' v (encB m D hb) ∧ Below wA.heap.size wA w') := by
        have := encodeT wA mx D hb (H9.out.2.1.keep bA) (H9.out.2.2.2.2.1.below bA H9.out.2.2.2.2.1.pos)
        rw [HEX.out.1, HEX.out.2] at this
        exact this
      have HA9 : Hid (RB wA (.slice sa (encB m D hb).length sc) (encB m D hb) ∧ Below X6.heap.size X6 wA) := ⟨oA.rb, bA⟩
      clear ES oA bA gm
      go_wp2_with (first | (refine wpList_load_row rfl 27 _ rfl w7.heap.size rfl 27 mx.cs (0, 0) _ gx Tryd.underlying27 rfl hix ?_))
      refine EX.out.mono ?_
      rintro e wB ⟨tv, rfl, oB, bB⟩
      obtain ⟨ta, tc, rfl⟩ := oB.form
      have B6B : Below X6.heap.size X6 wB := HA9.out.2.trans (bB.mono HA9.out.2.size)
      have HB9 : Hid (RB wB (.slice sa (encB m D hb).length sc) (encB m D hb) ∧ RB wB (.slice ta (encB m D hb).length tc) (encB m D hb) ∧ Below X6.heap.size X6 wB) := ⟨HA9.out.1.keep bB, oB.rb, B6B⟩
      have gm := (H9.out.2.2.1.below B6B).cells
      have hsm : m.cs.size = 40 := ok.size
      have bal : Below wB.heap.size wB (wB.alloc (.cells m.cs 27)) := (Below.refl _ _).alloc (Nat.le_refl _) _
      have B6C : Below X6.heap.size X6 (wB.alloc (.cells m.cs 27)) := B6B.trans (bal.mono B6B.size)
      have WA : Hid (Calls Tryd.prog 9 #[.slice (some ⟨wB.heap.size, 0, none⟩) 1 1] (wB.alloc (.cells m.cs 27)) fun e w' => WIR (wB.alloc (.cells m.cs 27)) w' e [⟨m, D, hb⟩]) := wireT _ _ [⟨m, D, hb⟩] (rms_one (x := ⟨m, D, hb⟩) (H9.out.1.keep B6B)) (H9.out.2.2.2.2.1.below B6C H9.out.2.2.2.2.1.pos) (by simp)
      clear EX oB bB HA9 B6B gx
      go_wp2_with (first | (refine wpList_load_row rfl 27 _ rfl w.heap.size rfl 27 m.cs (0, 0) _ gm Tryd.underlying27 rfl him ?_) | (refine build_msg rfl _ rfl m.cs rfl hsm ?_))
      refine WA.out.mono ?_
      rintro e wC ⟨uv, rfl, oC, bC⟩
      have HW1 : Hid (wirE [⟨mx, D, hb⟩] = wirE [⟨m, D, hb⟩] ∧ wirB [⟨mx, D, hb⟩] = wirB [⟨m, D, hb⟩]) := by
        refine ⟨?_, ?_⟩
        · simp only [wirE, HEX.out.1]
        · simp only [wirB, Mg.fr, List.map_cons, List.map_nil, HEX.out.2]
      obtain ⟨LL, hLL⟩ : ∃ x, x = (if wirE [⟨m, D, hb⟩] = 0 then wirB [⟨m, D, hb⟩] else []) := ⟨_, rfl⟩
      have hLb : LL.length ≤ 140737488351232 := by
        rw [hLL]
        split
        · have := wirB_le [⟨m, D, hb⟩] (w := X6) (fun x hx => by simp at hx; subst hx; exact H9.out.1)
          simp only [List.length_singleton] at this
          omega
        · simp
      rw [← hLL] at oC
      obtain ⟨ua, uc, rfl⟩ := oC.form
      have B6c : Below X6.heap.size X6 wC := B6C.trans (bC.mono B6C.size)
      have HC9 : Hid (RB wC (.slice sa (encB m D hb).length sc) (encB m D hb) ∧ RB wC (.slice ta (encB m D hb).length tc) (encB m D hb) ∧ RB wC (.slice ua LL.length uc) LL ∧ Below X6.heap.size X6 wC) := ⟨(HB9.out.1.keep bal).keep bC, (HB9.out.2.1.keep bal).keep bC, oC.rb, B6c⟩
      have gx := (H9.out.2.2.2.1.below B6c).cells
      have hsx : mx.cs.size = 40 := H9.out.2.1.ok.size
      have bal2 : Below wC.heap.size wC (wC.alloc (.cells mx.cs 27)) := (Below.refl _ _).alloc (Nat.le_refl _) _
      have B6D : Below X6.heap.size X6 (wC.alloc (.cells mx.cs 27)) := B6c.trans (bal2.mono B6c.size)
      have WB : Hid (Calls Tryd.prog 9 #[.slice (some ⟨wC.heap.size, 0, none⟩) 1 1] (wC.alloc (.cells mx.cs 27)) fun e w' => ∃ v, e = .returned (.tuple #[v, .int .i64 (wirE [⟨m, D, hb⟩])]) ∧ OW (wC.alloc (.cells mx.cs 27)).heap.size w' v LL ∧ Below (wC.alloc (.cells mx.cs 27)).heap.size (wC.alloc (.cells mx.cs 27)) w') := by
        have := wireT _ _ [⟨mx, D, hb⟩] (rms_one (x := ⟨mx, D, hb⟩) (H9.out.2.1.keep B6c)) (H9.out.2.2.2.2.1.below B6D H9.out.2.2.2.2.1.pos) (by simp)
        unfold WIR at this
        rw [HW1.out.1, HW1.out.2, ← hLL] at this
        exact this
      have HLb : Hid (LL.length ≤ 140737488351232 ∧ (encB m D hb).length ≤ 140737488351232) := ⟨hLb, by have := H9.out.1.enc_le; omega⟩
      clear WA oC bC B6C B6c gm bal hLL hLb HW1 HEX HB9
      generalize wirE [⟨m, D, hb⟩] = eW at *
      go_wp2_with (first | (refine wpList_load_row rfl 27 _ rfl w7.heap.size rfl 27 mx.cs (0, 0) _ gx Tryd.underlying27 rfl hix ?_) | (refine build_msg rfl _ rfl mx.cs rfl hsx ?_))
      refine WB.out.mono ?_
      rintro e wD ⟨vv, rfl, oD, bD⟩
      obtain ⟨va, vc, rfl⟩ := oD.form
      have HD9 : Hid (RB wD (.slice sa (encB m D hb).length sc) (encB m D hb) ∧ RB wD (.slice ta (encB m D hb).length tc) (encB m D hb) ∧ RB wD (.slice ua LL.length uc) LL ∧ RB wD (.slice va LL.length vc) LL ∧ Fm.Fr (fun k => (Value.slice a n ca).ownBlock ≠ some k) w wD) := ⟨(HC9.out.1.keep bal2).keep bD, (HC9.out.2.1.keep bal2).keep bD, (HC9.out.2.2.1.keep bal2).keep bD, oD.rb, by
        have b1 : Below X6.heap.size X6 wD := B6D.trans (bD.mono B6D.size)
        have b2 : Below w7.heap.size w7 wD := H9.out.2.2.2.2.2.trans (b1.mono H9.out.2.2.2.2.2.size)
        exact H7.out.2.2.2.trans (Fm.Fr.of_below b2) (fun _ _ x => x)⟩
      clear WB oD bD B6D bal2 gx HC9 H9 H7
      generalize encB m D hb = EE at *
      go_wp2_with fail
      refine (numLT wD _).mono ?_
      rintro e wx ⟨rfl, rfl⟩
      go_wp2_with fail
      refine (numLT wD _).mono ?_
      rintro e wx ⟨rfl, rfl⟩
      go_wp2_with fail
      refine (same _ _ EE wD HLb.out.2 HD9.out.1 HD9.out.2.1).mono ?_
      rintro e wE ⟨rfl, nE, rfl⟩
      go_wp2_with fail
      refine (numLT _ _).mono ?_
      rintro e wx ⟨rfl, rfl⟩
      go_wp2_with fail
      refine (numLT _ _).mono ?_
      rintro e wx ⟨rfl, rfl⟩
      go_wp2_with fail
      refine (same _ _ LL _ HLb.out.1 (HD9.out.2.2.1.keep (belowDrew _ _)) (HD9.out.2.2.2.1.keep (belowDrew _ _))).mono ?_
      rintro e wF ⟨rfl, nF, rfl⟩
      have HEnd : Hid (Fm.Fr (fun k => (Value.slice a n ca).ownBlock ≠ some k) w (wD.drewN (nE + nF))) := HD9.out.2.2.2.2.trans (Fm.Fr.of_below (belowDrew wD _)) (fun _ _ x => x)
      clear HD9
      go_wp2
      go_ret
      exact ⟨rfl, HEnd.out⟩
end Go.Proofs.YtpembmfpgolniaaDoor
namespace Go.Proofs.YtpembmfpgolniaaDoor
open Go.RowKit
/-- an own list of bytes whose block lies within bounds -/
def OWI (lo hi : Nat) (w : World) (v : Value) (l : List UInt8) : Prop := OW lo w v l ∧ ∀ g, v.ownBlock = some g → g < hi
/-- an own list of hashes, likewise -/
def OHI (lo hi : Nat) (w : World) (v : Value) (l : List UInt8) : Prop := OH lo w v l ∧ ∀ g, v.ownBlock = some g → g < hi
/-- own messages whose lists lie in unlike blocks, all within bounds -/
structure OMI (lo hi : Nat) (w : World) (v : Value) (ms : List Mg) : Prop where
  o : OMS lo w v ms
  md : MD ms
  v : ∀ g, v.ownBlock = some g → g < hi
  d : ∀ x ∈ ms, ∀ g, x.m.d.ownBlock = some g → g < hi
  h : ∀ x ∈ ms, ∀ g, x.m.h.ownBlock = some g → g < hi
theorem OW.fr {lo : Nat} {w w' : World} {v : Value} {l : List UInt8} {T : Nat → Prop} (h : OW lo w v l) (f : Fm.Fr T w w') (ht : ∀ k, v.ownBlock = some k → T k) : OW lo w' v l := ownsRow_oneL h (fun k hk => f.block k (World.ownsRow.lt h k hk).2 (ht k hk))
theorem OH.fr {lo : Nat} {w w' : World} {v : Value} {l : List UInt8} {T : Nat → Prop} (h : OH lo w v l) (f : Fm.Fr T w w') (ht : ∀ k, v.ownBlock = some k → T k) : OH lo w' v l := by
  obtain ⟨n, e, hr⟩ := h
  exact ⟨n, e, ownsRow_oneL hr (fun k hk => f.block k (World.ownsRow.lt hr k hk).2 (ht k hk))⟩
theorem OH.blk {lo : Nat} {w : World} {v : Value} {l : List UInt8} (h : OH lo w v l) : ∀ g, v.ownBlock = some g → lo ≤ g ∧ g < w.heap.size := fun g hg => by
  obtain ⟨n, _, hr⟩ := h
  exact World.ownsRow.lt hr g hg
theorem OWI.fr {lo hi : Nat} {w w' : World} {v : Value} {l : List UInt8} {T : Nat → Prop} (h : OWI lo hi w v l) (f : Fm.Fr T w w') (ht : ∀ k, lo ≤ k → k < hi → T k) : OWI lo hi w' v l := ⟨h.1.fr f (fun k hk => ht k (h.1.blk k hk).1 (h.2 k hk)), h.2⟩
theorem OHI.fr {lo hi : Nat} {w w' : World} {v : Value} {l : List UInt8} {T : Nat → Prop} (h : OHI lo hi w v l) (f : Fm.Fr T w w') (ht : ∀ k, lo ≤ k → k < hi → T k) : OHI lo hi w' v l := ⟨h.1.fr f (fun k hk => ht k (h.1.blk k hk).1 (h.2 k hk)), h.2⟩
theorem OWI.of {lo hi : Nat} {w : World} {v : Value} {l : List UInt8} (h : OW lo w v l) (hh : w.heap.size ≤ hi) : OWI lo hi w v l := ⟨h, fun g e => by have := (h.blk g e).2; omega⟩
theorem OHI.of {lo hi : Nat} {w : World} {v : Value} {l : List UInt8} (h : OH lo w v l) (hh : w.heap.size ≤ hi) : OHI lo hi w v l := ⟨h, fun g e => by have := (h.blk g e).2; omega⟩
theorem OMI.of {lo hi : Nat} {w : World} {v : Value} {ms : List Mg} (h : OMS lo w v ms) (md : MD ms) (hh : w.heap.size ≤ hi) : OMI lo hi w v ms :=
  ⟨h, md, fun g e => by have := (World.ownsRow.lt h.1 g e).2; omega, fun x hx g e => by have := ((h.2 x hx).d.blk g e).2; omega, fun x hx g e => by have := ((h.2 x hx).h.blk g e).2; omega⟩
theorem OMI.fr {lo hi : Nat} {w w' : World} {v : Value} {ms : List Mg} {T : Nat → Prop} (h : OMI lo hi w v ms) (f : Fm.Fr T w w') (ht : ∀ k, lo ≤ k → k < hi → T k) : OMI lo hi w' v ms := by
  refine ⟨⟨ownsRow_oneL h.o.1 (fun k hk => f.block k (World.ownsRow.lt h.o.1 k hk).2 (ht k (World.ownsRow.lt h.o.1 k hk).1 (h.v k hk))), fun x hx => ?_⟩, h.md, h.v, h.d, h.h⟩
  have ox := h.o.2 x hx
  exact ⟨ox.ok, ox.d.fr f (fun k hk => ht k (ox.d.blk k hk).1 (h.d x hx k hk)), ox.h.fr f (fun k hk => ht k (ox.h.blk k hk).1 (h.h x hx k hk)), ox.dl, ox.hl⟩
theorem MB.fr {w w' : World} {g : Nat} {m : Mv} {T : Nat → Prop} (h : MB w g m) (f : Fm.Fr T w w') (ht : T g) : MB w' g m := (f.block g h.lt ht).trans h
/-- the five bytes behind -/
def sp5 : List UInt8 := [115, 112, 97, 114, 101]
theorem room5 {B : Nat} {w : World} {v : Value} {l : List UInt8} (h : OW B w v (l ++ sp5)) : ∃ G cap, v = .slice (some ⟨G, 0, none⟩) (l.length + 5) cap ∧ OW B w (.slice (some ⟨G, 0, none⟩) l.length cap) l ∧ l.length + 5 ≤ cap ∧ B ≤ G ∧ G < w.heap.size := by
  have hb := h.blk
  rcases h.2 with ⟨_, h0⟩ | ⟨g, cap, cur, rfl, h2, h3, h4, h5, h6, h7⟩
  · simp [sp5] at h0
  have e5 : (l ++ sp5).length = l.length + 5 := by rw [List.length_append]; rfl
  rw [e5] at h4 h7
  refine ⟨g, cap, by rw [e5], ⟨by simp [Lib.byteCells], .inr ⟨g, cap, cur, rfl, h2, h3, by omega, h5, h6, ?_⟩⟩, h4, h2, (hb g rfl).2⟩
  have := congrArg (List.take l.length) h7
  rw [List.take_take, bcl_append, List.take_append_of_le_length (by rw [bcl_len]; exact Nat.le_refl _)] at this
  rw [Nat.min_eq_left (by omega)] at this
  rw [Nat.mul_one, this, List.take_of_length_le (by rw [bcl_len]; exact Nat.le_refl _)]
theorem sp5_cells : #[Value.int .u8 115, Value.int .u8 112, Value.int .u8 97, Value.int .u8 114, Value.int .u8 101] = bc sp5 := rfl
/-- the world with the five bytes, as the conversion leaves it -/
def spW (u : World) : World := u.alloc (.cells #[.int .u8 115, .int .u8 112, .int .u8 97, .int .u8 114, .int .u8 101] 5 (5, 6))
theorem conv5 (u : World) : (convert 22 22 (.slice (some ⟨u.heap.size, 0, none⟩) 5 5)).run Tryd.prog (u.alloc (.cells #[.int .u8 115, .int .u8 112, .int .u8 97, .int .u8 114, .int .u8 101] 5)) = .ok (.slice (some ⟨u.heap.size, 0, none⟩) 5 5) (spW u) :=
  Lib.run_convert_bytes_const u 22 5 #[.int .u8 115, .int .u8 112, .int .u8 97, .int .u8 114, .int .u8 101] 5 5 Tryd.underlying22 Tryd.underlying5
theorem spW_below (u : World) : Below u.heap.size u (spW u) := (Below.refl _ _).alloc (Nat.le_refl _) _
theorem spW_rb (u : World) : RB (spW u) (.slice (some ⟨u.heap.size, 0, none⟩) 5 5) sp5 := by
  refine ⟨some ⟨u.heap.size, 0, none⟩, 5, rfl, Nat.le_refl _, .inr ⟨u.heap.size, 0, rfl, by simp [spW], fun i hi => ?_⟩⟩
  have hh : (spW u).heap[u.heap.size]? = some (.cells #[.int .u8 115, .int .u8 112, .int .u8 97, .int .u8 114, .int .u8 101] 5 (5, 6)) := heapNew u _
  have hc : (spW u).cell? ⟨u.heap.size, 0 + i, none⟩ = (#[Value.int .u8 115, .int .u8 112, .int .u8 97, .int .u8 114, .int .u8 101] : Array Value)[i]? := by
    rw [Nat.zero_add]
    unfold World.cell?
    simp [hh]
  rw [hc]
  match i, hi with
  | 0, _ => rfl
  | 1, _ => rfl
  | 2, _ => rfl
  | 3, _ => rfl
  | 4, _ => rfl
end Go.Proofs.YtpembmfpgolniaaDoor
namespace Go.Proofs.YtpembmfpgolniaaDoor
open Go.RowKit
theorem foldl_setAt (off : Nat) : ∀ (xs : List Value) (k : Nat) (cs : Array Value), off + k + xs.length ≤ cs.size → ((xs.zipIdx k).foldl (fun cs (p : Value × Nat) => cs.setIfInBounds (off + p.2) p.1) cs).toList = cs.toList.take (off + k) ++ xs ++ cs.toList.drop (off + k + xs.length)
  | [], k, cs, h => by simp
  | x :: xs, k, cs, h => by
    simp only [List.zipIdx_cons, List.foldl_cons]
    rw [List.length_cons] at h
    rw [foldl_setAt off xs (k + 1) _ (by rw [Array.size_setIfInBounds]; omega)]
    have hk : off + k < cs.toList.length := by rw [Array.length_toList]; omega
    rw [Array.toList_setIfInBounds, ← Nat.add_assoc, List.take_succ_eq_append_getElem (by simpa using hk), List.take_set_of_le (Nat.le_refl _), List.drop_set_of_lt (by omega)]
    simp [Nat.add_assoc, Nat.add_comm 1]
theorem fill2 (N : Nat) (c1 c2 : Array Value) (h1 : c1.size = N) (h2 : c2.size = N) (Z : Array Value) (hZ : Z.size = 2 * N) : Instr.fill (fun i => some (i * N, N)) Z [(0, .agg c1), (1, .agg c2)] = some (c1 ++ c2) := by
  have e1 : (Value.agg c1).cells = c1 := rfl
  have e2 : (Value.agg c2).cells = c2 := rfl
  unfold Instr.fill
  simp only [e1, h1, hZ]
  rw [if_neg (by simp; omega)]
  unfold Instr.fill
  have s1 : (Array.foldl (fun cs (p : Value × Nat) => cs.setIfInBounds (0 * N + p.2) p.1) Z c1.zipIdx).toList = c1.toList ++ Z.toList.drop N := by
    rw [← Array.foldl_toList, Array.toList_zipIdx]
    have := foldl_setAt (0 * N) c1.toList 0 Z (by rw [Array.length_toList, h1]; omega)
    rw [Nat.zero_mul, Array.length_toList, h1] at this
    simpa using this
  have z1 : (Array.foldl (fun cs (p : Value × Nat) => cs.setIfInBounds (0 * N + p.2) p.1) Z c1.zipIdx).size = 2 * N := by
    rw [← Array.length_toList, s1, List.length_append, List.length_drop, Array.length_toList, Array.length_toList, h1, hZ]
    omega
  simp only [e2, h2]
  rw [if_neg (by rw [z1]; simp; omega)]
  unfold Instr.fill
  congr 1
  apply Array.ext'
  rw [← Array.foldl_toList, Array.toList_zipIdx]
  have := foldl_setAt (1 * N) c2.toList 0 _ (show 1 * N + 0 + c2.toList.length ≤ (Array.foldl (fun cs (p : Value × Nat) => cs.setIfInBounds (0 * N + p.2) p.1) Z c1.zipIdx).size by rw [z1, Array.length_toList, h2]; omega)
  rw [s1] at this
  rw [this]
  have t1 : List.take (1 * N + 0) (c1.toList ++ Z.toList.drop N) = c1.toList := by rw [List.take_append_of_le_length (by rw [Array.length_toList, h1]; omega), List.take_of_length_le (by rw [Array.length_toList, h1]; omega)]
  have t2 : List.drop (1 * N + 0 + c2.toList.length) (c1.toList ++ Z.toList.drop N) = [] := List.drop_eq_nil_of_le (by rw [List.length_append, List.length_drop, Array.length_toList, Array.length_toList, Array.length_toList, h1, h2, hZ]; omega)
  rw [t1, t2, List.append_nil]
  simp
theorem build_twoM {ops : Array Oper} {rest : List Oper} {o : Oper} {a : Act} {w : World} {Q : Exit → Act → World → Prop} (hg : o.guard = none) (x y : Operand) (ho : o.op = .buildSlice 33 2 #[(0, x), (1, y)]) (c1 c2 : Array Value) (hx : a.eval x = .agg c1) (hy : a.eval y = .agg c2) (l1 : c1.size = 40) (l2 : c2.size = 40)
    (h : wpList Tryd.prog ops Q rest (a.put o.dst (.slice (some ⟨w.heap.size, 0, none⟩) 2 2)) (w.alloc (.cells (c1 ++ c2) 27))) : wpList Tryd.prog ops Q (o :: rest) a w := by
  obtain ⟨i0, hi, hz0, hz1, hz2⟩ := info_parts info_msgP
  refine wpList_buildSlice hg 33 27 2 _ ho (c1 ++ c2) i0 _ Tryd.underlying33 hi hz0 (by rw [hz1]; decide) (by rw [hz1]; decide) ?_ h
  rw [hz1]
  have e : (#[(0, x), (1, y)].map fun (i, y) => (i, a.eval y)).toList = [(0, .agg c1), (1, .agg c2)] := by simp only [List.map_toArray, List.map_cons, List.map_nil, hx, hy]
  rw [e]
  exact fill2 40 c1 c2 l1 l2 _ (by rw [Array.size_map, Array.size_range])
theorem rms_twoM {w : World} {x y : Mg} (hx : MM w x.m x.D x.hb) (hy : MM w y.m y.D y.hb) : RMS (w.alloc (.cells (x.m.cs ++ y.m.cs) 27)) (.slice (some ⟨w.heap.size, 0, none⟩) 2 2) [x, y] := by
  have lx : x.m.ls.length = 40 := ok_ls hx.ok
  refine ⟨some ⟨w.heap.size, 0, none⟩, 2, rfl, Nat.le_refl _, .inr ⟨w.heap.size, 0, rfl, by simp, fun i z hz j u hu => ?_⟩, fun z hz => ?_⟩
  · have hc : ∀ k, (w.alloc (.cells (x.m.cs ++ y.m.cs) 27)).cell? ⟨w.heap.size, k, none⟩ = (x.m.ls ++ y.m.ls)[k]? := fun k => by
      rw [cellH2 (heapNew _ _)]
      simp [Mv.cs]
    match i, hz with
    | 0, hz =>
      simp at hz
      subst hz
      have hj : j < x.m.ls.length := (List.getElem?_eq_some_iff.1 hu).1
      rw [hc, Nat.zero_mul, Nat.zero_add, List.getElem?_append_left hj]
      exact hu
    | 1, hz =>
      simp at hz
      subst hz
      rw [hc, Nat.zero_add, Nat.one_mul, List.getElem?_append_right (by omega), lx, Nat.add_sub_cancel_left]
      exact hu
  · have hz' : z = x ∨ z = y := by simpa using hz
    rcases hz' with rfl | rfl
    · exact hx.keep ((Below.refl _ _).alloc (Nat.le_refl _) _)
    · exact hy.keep ((Below.refl _ _).alloc (Nat.le_refl _) _)
end Go.Proofs.YtpembmfpgolniaaDoor
namespace Go.Proofs.YtpembmfpgolniaaDoor
open Go.RowKit
/-- the stream of two messages that can be sent gives them back -/
theorem pair_two {w : World} {x : Mg} (h : MM w x.m x.D x.hb) (hE : wirE [x, x] = 0) {bs : List (List UInt8)} {r : List UInt8} {er : Int} (R : Fm.Rd false (wirB [x, x]) [] bs false r er) {ms : List Mg} (hof : MsOf ms (gds bs)) : ms.length = 2 ∧ MsEq ms [x, x] := by
  have hm : ∀ y ∈ [x, x], MM w y.m y.D y.hb := fun y hy => by
    have : y = x := by simpa using hy
    rw [this]
    exact h
  have R' : Fm.Rd false (wirB [x, x] ++ []) [] bs false r er := by rw [List.append_nil]; exact R
  obtain ⟨bs', rfl, R2⟩ := rd_wire [x, x] (fun y hy => (hm y hy).enc_le) R'
  obtain ⟨rfl, _⟩ := rd_few R2 (.inl (by simp))
  rw [List.append_nil] at hof
  have hg : gds (encs [x, x]) = encs [x, x] := gds_all fun i b hb => encs_good hm hE b (List.mem_of_getElem? hb)
  rw [hg] at hof
  exact ⟨hof.1.trans rfl, ms_back hm hE hof⟩
/-- no stream, no messages -/
theorem pair_none {bs : List (List UInt8)} {r : List UInt8} {er : Int} (R : Fm.Rd false [] [] bs false r er) {ms : List Mg} (hof : MsOf ms (gds bs)) : ms = [] := by
  obtain ⟨rfl, _⟩ := rd_few R (.inl (by simp))
  exact List.eq_nil_of_length_eq_zero hof.1
/-- a hash of one byte -/
def hm1 (x : Int) : List Value := Value.int .u8 x :: List.replicate 31 (Value.int .u8 0)
theorem hm1_one (x : Int) : ∀ u ∈ hm1 x, u.oneCell' = true := fun u hu => by
  simp only [hm1, List.mem_cons, List.mem_replicate] at hu
  rcases hu with rfl | ⟨_, rfl⟩ <;> rfl
theorem hm1_built (x : Int) : Tryd.prog.built 24 [(0, .int .u8 x)] = some (hm1 x).toArray := by kernel_rfl
theorem built_hash1 {ops : Array Oper} {rest : List Oper} {o : Oper} {a : Act} {w : World} {Q : Exit → Act → World → Prop} (hg : o.guard = none) (x0 : Operand) (ho : o.op = .build 24 #[(0, x0)]) (v0 : Value) (h0 : a.eval x0 = v0) (T : Array Value)
    (hT : Tryd.prog.built 24 [(0, v0)] = some T) (h : wpList Tryd.prog ops Q rest (a.put o.dst (.agg T)) w) : wpList Tryd.prog ops Q (o :: rest) a w := by
  have e : (#[(0, x0)].map fun (i, y) => (i, a.eval y)).toList = [(0, v0)] := by simp [h0]
  exact wpList_build hg _ _ ho (by rw [e, hT]; rfl) (by rw [e, hT]; exact h)
theorem built_hash2 {ops : Array Oper} {rest : List Oper} {o : Oper} {a : Act} {w : World} {Q : Exit → Act → World → Prop} (hg : o.guard = none) (x0 x1 : Operand) (ho : o.op = .build 24 #[(0, x0), (1, x1)]) (v0 v1 : Value) (h0 : a.eval x0 = v0) (h1 : a.eval x1 = v1) (T : Array Value)
    (hT : Tryd.prog.built 24 [(0, v0), (1, v1)] = some T) (h : wpList Tryd.prog ops Q rest (a.put o.dst (.agg T)) w) : wpList Tryd.prog ops Q (o :: rest) a w := by
  have e : (#[(0, x0), (1, x1)].map fun (i, y) => (i, a.eval y)).toList = [(0, v0), (1, v1)] := by simp [h0, h1]
  exact wpList_build hg _ _ ho (by rw [e, hT]; rfl) (by rw [e, hT]; exact h)
/-- what the writing over of hashes keeps: all other blocks, and that they are so many -/
def AH (w : World) (B : Nat) (hv : Value) (n : Nat) (wr : World) : Prop := Fm.Fr (fun k => hv.ownBlock ≠ some k) w wr ∧ ∃ xs : List Value, wr.ownsRow B 24 32 hv n xs
theorem AH.start {w : World} {B n : Nat} {hv : Value} {xs : List Value} (h : w.ownsRow B 24 32 hv n xs) : AH w B hv n w := ⟨Fm.Fr.refl _ _, xs, h⟩
/-- one of them is written over -/
theorem AH.put {w wr : World} {B n ca g : Nat} (h : AH w B (.slice (some ⟨g, 0, none⟩) n ca) n wr) (i : Nat) (us : List Value) : AH w B (.slice (some ⟨g, 0, none⟩) n ca) n (wr.setCells g (i * 32) us) := by
  obtain ⟨f, xs, hr⟩ := h
  obtain ⟨k1, k2, k3, k4⟩ := setCells_rest us wr g (i * 32)
  refine ⟨⟨k1.trans f.os, k2.trans f.tape, k3.trans f.output, by rw [k4]; exact f.size, fun k hk hs => (setCells_other us wr g _ k (fun e => hs (by rw [e]; rfl))).trans (f.block k hk hs)⟩, ?_⟩
  rcases hr.2 with ⟨e, _⟩ | ⟨g', cap, cur, e, h2, h3, h4, h5, h6, h7⟩
  · cases e
  simp only [Value.slice.injEq, Option.some.injEq, Addr.mk.injEq] at e
  obtain ⟨⟨rfl, _⟩, _, rfl⟩ := e
  refine ⟨(setR cur (i * 32) us).toList.take (n * 32), ?_, .inr ⟨g, ca, setR cur (i * 32) us, rfl, h2, setCells_heap us wr g (i * 32) cur 24 h3, h4, h5, by rw [setR_size]; exact h6, rfl⟩⟩
  have : n * 32 ≤ ca * 32 := Nat.mul_le_mul_right _ h4
  rw [List.length_take, Array.length_toList, setR_size, h6]
  omega
/-- the messages stand when one of their lists of bytes has been gone on with -/
theorem OMI.str {lo hi B : Nat} {w w' : World} {v : Value} {ms : List Mg} (h : OMI lo hi w v ms) {i : Nat} {x : Mg} (hx : ms[i]? = some x) {n k : Nat} {ys : List Value} {z : Value} (hB : lo ≤ B) (hn : n = x.D.length) (g : GIL w B 5 1 x.m.d n (Lib.byteCells x.D) k ys z w') : OMI lo hi w' v ms := by
  have hxm := List.mem_of_getElem? hx
  have ox := h.o.2 x hxm
  have tyd : ∀ b, x.m.d.ownBlock = some b → ∃ cs f, w.heap[b]? = some (.cells cs 5 f) := fun b hb => by
    rcases ox.d.2 with ⟨e, _⟩ | ⟨g', cap, cur, e, _, h3, _⟩
    · rw [e] at hb; simp [Value.ownBlock] at hb
    · rw [e] at hb
      simp [Value.ownBlock] at hb
      subst hb
      exact ⟨_, _, h3⟩
  have other : ∀ {e size n' : Nat} {v' : Value} {xs : List Value} {B' : Nat}, w.ownsRow B' e size v' n' xs → e ≠ 5 → w'.ownsRow B' e size v' n' xs := fun {e size n' v' xs B'} hr he => ownsRow_oneL hr (fun k hk => g.fr.block k (World.ownsRow.lt hr k hk).2 (fun e' => by
    obtain ⟨cs, f, hc⟩ := tyd k e'
    rcases hr.2 with ⟨e1, _⟩ | ⟨g', cap, cur, e1, _, h3, _⟩
    · rw [e1] at hk; simp [Value.ownBlock] at hk
    · rw [e1] at hk
      simp [Value.ownBlock] at hk
      subst hk
      rw [h3] at hc
      simp at hc
      exact he hc.2.1))
  refine ⟨⟨other h.o.1 (by decide), fun y hy => ?_⟩, h.md, h.v, h.d, h.h⟩
  have oy := h.o.2 y hy
  obtain ⟨nh, eh, hr⟩ := oy.h
  refine ⟨oy.ok, ?_, ⟨nh, eh, other hr (by decide)⟩, oy.dl, oy.hl⟩
  by_cases hyx : y.m.d.ownBlock = x.m.d.ownBlock
  · obtain ⟨j, hj, hyj⟩ := List.getElem_of_mem hy
    have hyj' : ms[j]? = some y := by rw [List.getElem?_eq_getElem hj, hyj]
    rcases Nat.lt_trichotomy i j with hij | hij | hij
    · refine ownsRow_oneL oy.d (fun k hk => absurd hk ((h.md i j x y hij hx hyj').1 k (by rw [← hyx]; exact hk)))
    · subst hij
      rw [hx] at hyj'
      cases hyj'
      have := g.old
      subst hn
      exact ownsRow_baseL (B := B) this hB
    · refine ownsRow_oneL oy.d (fun k hk => absurd (show x.m.d.ownBlock = some k by rw [← hyx]; exact hk) ((h.md j i y x hij hyj' hx).1 k hk))
  · exact oy.d.fr g.fr (fun k hk e => hyx (by rw [hk, e]))
/-- the messages stand when one of their lists of hashes has been gone on with -/
theorem OMI.strH {lo hi B : Nat} {w w' : World} {v : Value} {ms : List Mg} (h : OMI lo hi w v ms) {i : Nat} {x : Mg} (hx : ms[i]? = some x) {n k : Nat} {ys : List Value} {z : Value} (hB : lo ≤ B) (hn : x.hb.length = n * 32) (g : GIL w B 24 32 x.m.h n (Lib.byteCells x.hb) k ys z w') : OMI lo hi w' v ms := by
  have hxm := List.mem_of_getElem? hx
  have ox := h.o.2 x hxm
  have tyd : ∀ b, x.m.h.ownBlock = some b → ∃ cs f, w.heap[b]? = some (.cells cs 24 f) := fun b hb => by
    obtain ⟨_, _, hr⟩ := ox.h
    rcases hr.2 with ⟨e, _⟩ | ⟨g', cap, cur, e, _, h3, _⟩
    · rw [e] at hb; simp [Value.ownBlock] at hb
    · rw [e] at hb
      simp [Value.ownBlock] at hb
      subst hb
      exact ⟨_, _, h3⟩
  have other : ∀ {e size n' : Nat} {v' : Value} {xs : List Value} {B' : Nat}, w.ownsRow B' e size v' n' xs → e ≠ 24 → w'.ownsRow B' e size v' n' xs := fun {e size n' v' xs B'} hr he => ownsRow_oneL hr (fun k hk => g.fr.block k (World.ownsRow.lt hr k hk).2 (fun e' => by
    obtain ⟨cs, f, hc⟩ := tyd k e'
    rcases hr.2 with ⟨e1, _⟩ | ⟨g', cap, cur, e1, _, h3, _⟩
    · rw [e1] at hk; simp [Value.ownBlock] at hk
    · rw [e1] at hk
      simp [Value.ownBlock] at hk
      subst hk
      rw [h3] at hc
      simp at hc
      exact he hc.2.1))
  refine ⟨⟨other h.o.1 (by decide), fun y hy => ?_⟩, h.md, h.v, h.d, h.h⟩
  have oy := h.o.2 y hy
  refine ⟨oy.ok, other oy.d (by decide), ?_, oy.dl, oy.hl⟩
  by_cases hyx : y.m.h.ownBlock = x.m.h.ownBlock
  · obtain ⟨nh, eh, hr⟩ := oy.h
    obtain ⟨j, hj, hyj⟩ := List.getElem_of_mem hy
    have hyj' : ms[j]? = some y := by rw [List.getElem?_eq_getElem hj, hyj]
    rcases Nat.lt_trichotomy i j with hij | hij | hij
    · exact ⟨nh, eh, ownsRow_oneL hr (fun k hk => absurd hk ((h.md i j x y hij hx hyj').2 k (by rw [← hyx]; exact hk)))⟩
    · subst hij
      rw [hx] at hyj'
      cases hyj'
      exact ⟨n, hn, ownsRow_baseL (B := B) g.old hB⟩
    · exact ⟨nh, eh, ownsRow_oneL hr (fun k hk => absurd (show x.m.h.ownBlock = some k by rw [← hyx]; exact hk) ((h.md j i y x hij hyj' hx).2 k hk))⟩
  · exact oy.h.fr g.fr (fun k hk e => hyx (by rw [hk, e]))
end Go.Proofs.YtpembmfpgolniaaDoor
namespace Go.Proofs.YtpembmfpgolniaaDoor
open Go.RowKit
theorem grownFr {w w' : World} {row : Option Nat} (h : w.grownBy w' row) : Fm.Fr (fun k => some k ≠ row) w w' := ⟨h.os, h.tape, h.output, h.size, fun k hk hs => h.block k hk hs⟩
/-- something in memory: its blocks, what holds of it -/
structure Itm where
  S : Nat → Prop
  A : World → Prop
/-- it holds, in blocks of its own, and what happens elsewhere does not touch it -/
structure Itm.Ok (x : Itm) (B : Nat) (w : World) : Prop where
  a : x.A w
  lo : ∀ q, x.S q → B ≤ q
  hi : ∀ q, x.S q → q < w.heap.size
  loc : ∀ w', Fm.Fr x.S w w' → x.A w'
theorem Itm.Ok.fr {x : Itm} {B : Nat} {w w' : World} (h : x.Ok B w) (hf : Fm.Fr x.S w w') : x.Ok B w' :=
  ⟨h.loc w' hf, h.lo, fun q hq => Nat.lt_of_lt_of_le (h.hi q hq) hf.size, fun w'' hf' => h.loc w'' (hf.trans hf' (fun _ _ x => x))⟩
/-- all of them, in unlike blocks -/
structure Bag (w0 : World) (w : World) (xs : List Itm) : Prop where
  ok : ∀ x, x ∈ xs → x.Ok w0.heap.size w
  ap : xs.Pairwise fun x y => ∀ q, x.S q → ¬ y.S q
  bel : Below w0.heap.size w0 w
theorem Bag.nil (w : World) : Bag w w [] := ⟨fun x hx => (by cases hx), List.Pairwise.nil, Below.refl _ _⟩
theorem Bag.nil' {w0 w : World} (h : Below w0.heap.size w0 w) : Bag w0 w [] := ⟨fun x hx => (by cases hx), List.Pairwise.nil, h⟩
theorem Bag.below {w0 w w' : World} {xs : List Itm} (h : Bag w0 w xs) (hb : Below w.heap.size w w') : Bag w0 w' xs :=
  ⟨fun x hx => (h.ok x hx).fr (Fm.Fr.of_below hb), h.ap, h.bel.trans (hb.mono h.bel.size)⟩
theorem Bag.drew {w0 w : World} {xs : List Itm} (h : Bag w0 w xs) (n : Nat) : Bag w0 (w.drewN n) xs := h.below (belowDrew w n)
theorem Bag.sub {w0 w : World} {xs ys : List Itm} (h : Bag w0 w xs) (hs : ys.Sublist xs) : Bag w0 w ys := ⟨fun x hx => h.ok x (hs.subset hx), h.ap.sublist hs, h.bel⟩
theorem Bag.perm {w0 w : World} {xs ys : List Itm} (h : Bag w0 w xs) (hs : xs.Perm ys) : Bag w0 w ys :=
  ⟨fun x hx => h.ok x (hs.mem_iff.2 hx), hs.pairwise h.ap (fun {_ _} hxy q hq hq' => hxy q hq' hq), h.bel⟩
/-- one more -/
theorem Bag.add {w0 w w' : World} {xs : List Itm} (h : Bag w0 w xs) (hb : Below w.heap.size w w') (y : Itm) (hy : y.Ok w.heap.size w') : Bag w0 w' (y :: xs) := by
  have h' := h.below hb
  refine ⟨fun x hx => ?_, List.Pairwise.cons (fun x hx q hq hq' => ?_) h.ap, h'.bel⟩
  · rcases List.mem_cons.1 hx with rfl | hx
    · exact ⟨hy.a, fun q hq => Nat.le_trans h.bel.size (hy.lo q hq), hy.hi, hy.loc⟩
    · exact h'.ok x hx
  · have h1 := hy.lo q hq
    have h2 := (h.ok x hx).hi q hq'
    omega
/-- one of them is changed -/
theorem Bag.change {w0 w w' : World} {ls rs : List Itm} {x y : Itm} (h : Bag w0 w (ls ++ x :: rs)) (hf : Fm.Fr (fun q => ¬ x.S q) w w') (hy : y.Ok w0.heap.size w') (hs : ∀ q, y.S q → x.S q ∨ w.heap.size ≤ q) : Bag w0 w' (ls ++ y :: rs) := by
  obtain ⟨p1, p2, p3⟩ := List.pairwise_append.1 h.ap
  have p4 := List.pairwise_cons.1 p2
  have hx := h.ok x (by simp)
  have dl : ∀ z, z ∈ ls → ∀ q, z.S q → ¬ x.S q := fun z hz q hq => p3 z hz x (by simp) q hq
  have dr : ∀ z, z ∈ rs → ∀ q, z.S q → ¬ x.S q := fun z hz q hq hq' => p4.1 z hz q hq' hq
  have ol : ∀ z, z ∈ ls ++ x :: rs → ∀ q, z.S q → q < w.heap.size := fun z hz q hq => (h.ok z hz).hi q hq
  refine ⟨fun z hz => ?_, List.pairwise_append.2 ⟨p1, List.pairwise_cons.2 ⟨fun z hz q hq hq' => ?_, p4.2⟩, fun z hz z' hz' q hq hq' => ?_⟩, ?_⟩
  · rcases List.mem_append.1 hz with hz | hz
    · exact (h.ok z (by simp [hz])).fr (hf.mono (fun q _ hq => dl z hz q hq))
    · rcases List.mem_cons.1 hz with rfl | hz
      · exact hy
      · exact (h.ok z (by simp [hz])).fr (hf.mono (fun q _ hq => dr z hz q hq))
  · rcases hs q hq with e | e
    · exact dr z hz q hq' e
    · have := ol z (by simp [hz]) q hq'; omega
  · rcases List.mem_cons.1 hz' with rfl | hz'
    · rcases hs q hq' with e | e
      · exact dl z hz q hq e
      · have := ol z (by simp [hz]) q hq; omega
    · exact p3 z hz z' (by simp [hz']) q hq hq'
  · exact ⟨hf.os.trans h.bel.os, hf.tape.trans h.bel.tape, hf.output.trans h.bel.output, Nat.le_trans h.bel.size hf.size, fun k hk => (hf.block k (Nat.lt_of_lt_of_le hk h.bel.size) (fun e => by have := hx.lo k e; omega)).trans (h.bel.block k hk)⟩
theorem ownsRow_frL {S : Nat → Prop} {w w' : World} {B e size n : Nat} {v : Value} {xs : List Value} (h : w.ownsRow B e size v n xs) (hf : Fm.Fr S w w') (hs : ∀ g, v.ownBlock = some g → S g) : w'.ownsRow B e size v n xs :=
  ownsRow_oneL h (fun k hk => hf.block k (World.ownsRow.lt h k hk).2 (hs k hk))
/-- a list -/
def LIt (B e sz : Nat) (v : Value) (n : Nat) (xs : List Value) : Itm := ⟨fun q => v.ownBlock = some q, fun w => w.ownsRow B e sz v n xs⟩
theorem LIt.ok {B B' e sz : Nat} {v : Value} {n : Nat} {xs : List Value} {w : World} (h : w.ownsRow B' e sz v n xs) (hB : B ≤ B') : (LIt B e sz v n xs).Ok B w :=
  ⟨ownsRow_baseL h hB, fun q hq => Nat.le_trans hB (World.ownsRow.lt h q hq).1, fun q hq => (World.ownsRow.lt h q hq).2, fun _ hf => ownsRow_frL (ownsRow_baseL h hB) hf (fun _ hg => hg)⟩
/-- a list of bytes -/
def LB (B : Nat) (v : Value) (l : List UInt8) : Itm := LIt B 5 1 v l.length (Lib.byteCells l)
/-- a list of hashes -/
def LH (B : Nat) (v : Value) (l : List UInt8) : Itm := ⟨fun q => v.ownBlock = some q, fun w => OH B w v l⟩
theorem OH.baseL {B B' : Nat} {w : World} {v : Value} {l : List UInt8} (h : OH B w v l) (hb : B' ≤ B) : OH B' w v l := by
  obtain ⟨n, e, hr⟩ := h
  exact ⟨n, e, ownsRow_baseL hr hb⟩
theorem LH.ok {B B' : Nat} {v : Value} {l : List UInt8} {w : World} (h : OH B' w v l) (hB : B ≤ B') : (LH B v l).Ok B w :=
  ⟨h.baseL hB, fun q hq => Nat.le_trans hB (h.blk q hq).1, fun q hq => (h.blk q hq).2, fun _ hf => (h.baseL hB).fr hf (fun _ hg => hg)⟩
/-- a message in its block -/
def MI (g : Nat) (m : Mv) : Itm := ⟨fun q => q = g, fun w => MB w g m⟩
theorem MI.ok {B g : Nat} {m : Mv} {w : World} (h : MB w g m) (hB : B ≤ g) : (MI g m).Ok B w :=
  ⟨h, fun q hq => by cases hq; exact hB, fun q hq => by cases hq; exact h.lt, fun _ hf => h.fr hf rfl⟩
/-- messages, in blocks between bounds -/
def RI (lo hi : Nat) (v : Value) (ms : List Mg) : Itm := ⟨fun q => lo ≤ q ∧ q < hi, fun w => OMI lo hi w v ms⟩
theorem RI.ok {lo : Nat} {v : Value} {ms : List Mg} {w : World} (h : OMS lo w v ms) (hm : MD ms) : (RI lo w.heap.size v ms).Ok lo w :=
  ⟨OMI.of h hm (Nat.le_refl _), fun _ hq => hq.1, fun _ hq => hq.2, fun _ hf => (OMI.of h hm (Nat.le_refl _)).fr hf (fun _ h1 h2 => ⟨h1, h2⟩)⟩
/-- a list, and another one that goes on with it, whose beginning may be anything -/
def PI (B e sz : Nat) (v0 : Value) (n : Nat) (xs : List Value) (v : Value) (k : Nat) (ys : List Value) : Itm :=
  ⟨fun q => v0.ownBlock = some q ∨ v.ownBlock = some q, fun w => w.ownsRow B e sz v0 n xs ∧ ∃ zs, zs.length = n * sz ∧ w.ownsRow B e sz v (n + k) (zs ++ ys)⟩
theorem PI.ok {B e sz : Nat} {v0 : Value} {n : Nat} {xs : List Value} {v : Value} {k : Nat} {ys : List Value} {w : World} (h : (PI B e sz v0 n xs v k ys).A w) : (PI B e sz v0 n xs v k ys).Ok B w := by
  have h' := h
  obtain ⟨h1, zs, h2, h3⟩ := h
  refine ⟨h', fun q hq => ?_, fun q hq => ?_, fun w' hf => ⟨ownsRow_frL h1 hf (fun _ hg => .inl hg), zs, h2, ownsRow_frL h3 hf (fun _ hg => .inr hg)⟩⟩
  · rcases hq with hq | hq
    · exact (World.ownsRow.lt h1 q hq).1
    · exact (World.ownsRow.lt h3 q hq).1
  · rcases hq with hq | hq
    · exact (World.ownsRow.lt h1 q hq).2
    · exact (World.ownsRow.lt h3 q hq).2
/-- a list that has been gone on with -/
theorem PI.of_gil {w0 w w' : World} {ls rs : List Itm} {e sz : Nat} {v0 : Value} {n : Nat} {xs : List Value} {v : Value} {k : Nat} {ys : List Value} (h : Bag w0 w (ls ++ LIt w0.heap.size e sz v0 n xs :: rs)) (g : GIL w w0.heap.size e sz v0 n xs k ys v w') : Bag w0 w' (ls ++ PI w0.heap.size e sz v0 n xs v k ys :: rs) := by
  refine h.change (g.fr.mono (fun q _ hq he => hq he)) (PI.ok ⟨g.old, xs, g.old.1, g.new⟩) (fun q hq => ?_)
  rcases hq with hq | hq
  · exact .inl hq
  · rcases g.at_ with e1 | e1
    · exact .inl (by show v0.ownBlock = some q; rw [← e1]; exact hq)
    · exact .inr (e1 q hq)
/-- what is behind the list stands -/
theorem PI.tail {B e sz : Nat} {v0 : Value} {n : Nat} {xs : List Value} {a : Option Addr} {m c k : Nat} {ys : List Value} {w : World} (h : (PI B e sz v0 n xs (.slice a m c) k ys).A w) (hk : 0 < k) : m = n + k ∧ m ≤ c ∧ ∃ g, a = some ⟨g, 0, none⟩ ∧ ∀ j x, ys[j]? = some x → w.cell? ⟨g, n * sz + j, none⟩ = some x := by
  obtain ⟨_, zs, hz, hr⟩ := h
  have hl := hr.1
  rw [List.length_append, hz, Nat.add_mul] at hl
  rcases hr.2 with ⟨_, h0⟩ | ⟨g, cap, cur, e1, _, h3, h4, _⟩
  · omega
  · simp only [Value.slice.injEq] at e1
    obtain ⟨rfl, rfl, rfl⟩ := e1
    refine ⟨rfl, h4, g, rfl, fun j x hx => ?_⟩
    have hj := (List.getElem?_eq_some_iff.1 hx).1
    rw [World.ownsRow.cellAt hr (n * sz + j) (by rw [Nat.add_mul]; omega), List.getElem?_append_right (by omega), hz, Nat.add_sub_cancel_left]
    exact hx
/-- a list is gone on with by one element, among others -/
theorem append_LI {ops : Array Oper} {rest : List Oper} {o : Oper} {a : Act} {Q : Exit → Act → World → Prop} {w0 w : World} (ls rs : List Itm) {e t sz : Nat} {v0 : Value} {n : Nat} {xs us : List Value} (i0 : TypeInfo) (z : Value) (bytes : Nat) (hgd : o.guard = none) (s x : Operand)
    (ho : o.op = .call { callee := .builtin .append, args := #[s, x], argTypes := #[t, t] }) (h1 : Tryd.prog.underlying t = some (.slice e)) (h2 : Tryd.prog.info? e = some i0) (h3 : i0.zero = some z) (h4 : i0.size = sz) (h5 : i0.bytes = bytes) (h6 : z.cells.size = sz) (h7 : 0 < sz)
    (hs : a.eval s = v0) (hbag : Bag w0 w (ls ++ LIt w0.heap.size e sz v0 n xs :: rs)) (b : Nat) (hx : a.eval x = .slice (some ⟨b, 0, none⟩) 1 1) (hul : us.length = sz) (hc : ∀ j u, us[j]? = some u → w.cell? ((⟨b, 0, none⟩ : Addr).add j) = some u) (h1c : ∀ u ∈ us, u.oneCell' = true) (b1 : n + 1 ≤ maxLen) (b2 : (n + 1) * bytes ≤ 140737488355328)
    (h : ∀ a' c' w', Bag w0 w' (ls ++ PI w0.heap.size e sz v0 n xs (.slice a' (n + 1) c') 1 us :: rs) → wpList Tryd.prog ops Q rest (a.put o.dst (.slice a' (n + 1) c')) w') : wpList Tryd.prog ops Q (o :: rest) a w := by
  have hrow : w.ownsRow w0.heap.size e sz v0 n xs := (hbag.ok (LIt w0.heap.size e sz v0 n xs) (by simp)).a
  have hform : ∀ {w' : World} {v : Value} {m : Nat} {ys : List Value}, w'.ownsRow w0.heap.size e sz v m ys → ∃ a c, v = .slice a m c := fun hh => by
    rcases hh.2 with ⟨rfl, h0⟩ | ⟨g, cap, _, rfl, _⟩
    · rw [h0]; exact ⟨none, 0, rfl⟩
    · exact ⟨_, cap, rfl⟩
  refine append_bothL (us := us) (m := 1) i0 z bytes hgd s x ho h1 h2 h3 h4 h5 h6 h7 (by omega) hs hrow ⟨b, 0, none⟩ 1 hx (by rw [hul, Nat.one_mul]) hc h1c hbag.bel.size b1 b2 (fun v' w' q1 q2 q3 q4 => ?_)
  obtain ⟨a', c', rfl⟩ := hform q1
  refine h a' c' w' (PI.of_gil hbag (GIL.next (k := 0) (ys := []) (m := 1) (GIL.start hrow) (by simpa using q1) (by simpa using q2) q3 q4 |> fun g => by simpa using g))
theorem PI.old {B e sz : Nat} {v0 : Value} {n : Nat} {xs : List Value} {v : Value} {k : Nat} {ys : List Value} {w : World} (h : (PI B e sz v0 n xs v k ys).Ok B w) : (LIt B e sz v0 n xs).Ok B w := LIt.ok h.a.1 (Nat.le_refl _)
/-- what went on with it is forgotten -/
theorem Bag.forget {w0 w : World} {ls rs : List Itm} {e sz : Nat} {v0 : Value} {n : Nat} {xs : List Value} {v : Value} {k : Nat} {ys : List Value} (h : Bag w0 w (ls ++ PI w0.heap.size e sz v0 n xs v k ys :: rs)) : Bag w0 w (ls ++ LIt w0.heap.size e sz v0 n xs :: rs) :=
  h.change (Fm.Fr.refl _ _) (PI.old (h.ok (PI w0.heap.size e sz v0 n xs v k ys) (by simp))) (fun _ hq => .inl (.inl hq))
theorem Bag.at {w0 w : World} {xs : List Itm} (h : Bag w0 w xs) (i : Nat) {x : Itm} (hx : xs[i]? = some x) : x.A w := (h.ok x (List.mem_of_getElem? hx)).a
end Go.Proofs.YtpembmfpgolniaaDoor
namespace Go.Proofs.YtpembmfpgolniaaDoor
open Go.RowKit
/-- a bag all of whose blocks lie below a bound -/
structure BagU (w0 w : World) (xs : List Itm) (hi : Nat) : Prop where
  b : Bag w0 w xs
  u : ∀ x ∈ xs, ∀ q, x.S q → q < hi
theorem BagU.app {w0 w : World} {xs ys : List Itm} {hi lo hi' : Nat} (h : BagU w0 w xs hi) (hy : ∀ y ∈ ys, y.Ok w0.heap.size w) (hp : ys.Pairwise fun x y => ∀ q, x.S q → ¬ y.S q) (hs : ∀ y ∈ ys, ∀ q, y.S q → lo ≤ q ∧ q < hi') (h1 : hi ≤ lo) (h2 : hi ≤ hi') : BagU w0 w (ys ++ xs) hi' := by
  refine ⟨⟨fun x hx => ?_, List.pairwise_append.2 ⟨hp, h.b.ap, fun y hy' x hx q hq hq' => ?_⟩, h.b.bel⟩, fun x hx q hq => ?_⟩
  · rcases List.mem_append.1 hx with hx | hx
    · exact hy x hx
    · exact h.b.ok x hx
  · have := h.u x hx q hq'
    have := (hs y hy' q hq).1
    omega
  · rcases List.mem_append.1 hx with hx | hx
    · exact (hs x hx q hq).2
    · exact Nat.lt_of_lt_of_le (h.u x hx q hq) h2
theorem BagU.one {w0 w : World} {xs : List Itm} {hi lo hi' : Nat} {y : Itm} (h : BagU w0 w xs hi) (hy : y.Ok w0.heap.size w) (hs : ∀ q, y.S q → lo ≤ q ∧ q < hi') (h1 : hi ≤ lo) (h2 : hi ≤ hi') : BagU w0 w (y :: xs) hi' :=
  h.app (ys := [y]) (fun z hz => by rw [List.mem_singleton.1 hz]; exact hy) (List.pairwise_singleton _ _) (fun z hz q hq => by rw [List.mem_singleton.1 hz] at hq; exact hs q hq) h1 h2
theorem own_tag {w : World} {B B' e e' sz sz' n n' : Nat} {v v' : Value} {xs xs' : List Value} (h : w.ownsRow B e sz v n xs) (h' : w.ownsRow B' e' sz' v' n' xs') (he : e ≠ e') : ∀ q, v.ownBlock = some q → v'.ownBlock ≠ some q := fun q hq hq' => by
  rcases h.2 with ⟨rfl, _⟩ | ⟨g, cap, cur, rfl, _, h3, _⟩
  · simp [Value.ownBlock] at hq
  rcases h'.2 with ⟨rfl, _⟩ | ⟨g', cap', cur', rfl, _, h3', _⟩
  · simp [Value.ownBlock] at hq'
  simp only [Value.ownBlock, Option.some.injEq] at hq hq'
  subst hq
  subst hq'
  rw [h3] at h3'
  simp only [Option.some.injEq, Obj.cells.injEq] at h3'
  exact he h3'.2.1
/-- the lists of hashes, as many as there are -/
def LHn (B : Nat) (v : Value) (l : List UInt8) : Itm := LIt B 24 32 v (l.length / 32) (Lib.byteCells l)
theorem OH.n {B : Nat} {w : World} {v : Value} {l : List UInt8} (h : OH B w v l) : w.ownsRow B 24 32 v (l.length / 32) (Lib.byteCells l) ∧ l.length = l.length / 32 * 32 := by
  obtain ⟨n, e, hr⟩ := h
  have : l.length / 32 = n := by omega
  rw [this]
  exact ⟨hr, e⟩
def DIs (B : Nat) (ms : List Mg) : List Itm := ms.map fun x => LB B x.m.d x.D
def HIs (B : Nat) (ms : List Mg) : List Itm := ms.map fun x => LHn B x.m.h x.hb
theorem rows_items {B lo hi : Nat} {w : World} {v : Value} {ms : List Mg} (h : OMI lo hi w v ms) (hB : B ≤ lo) :
    (∀ y ∈ LIt B 27 40 v ms.length (ms.flatMap fun x : Mg => x.m.ls) :: (DIs B ms ++ HIs B ms), y.Ok B w) ∧
    (LIt B 27 40 v ms.length (ms.flatMap fun x : Mg => x.m.ls) :: (DIs B ms ++ HIs B ms)).Pairwise (fun x y => ∀ q, x.S q → ¬ y.S q) ∧
    ∀ y ∈ LIt B 27 40 v ms.length (ms.flatMap fun x : Mg => x.m.ls) :: (DIs B ms ++ HIs B ms), ∀ q, y.S q → lo ≤ q ∧ q < hi := by
  have hd : ∀ y ∈ DIs B ms, ∃ x ∈ ms, y = LB B x.m.d x.D ∧ OW lo w x.m.d x.D := fun y hy => by
    obtain ⟨x, hx, rfl⟩ := List.mem_map.1 hy
    exact ⟨x, hx, rfl, (h.o.2 x hx).d⟩
  have hh : ∀ y ∈ HIs B ms, ∃ x ∈ ms, y = LHn B x.m.h x.hb ∧ w.ownsRow lo 24 32 x.m.h (x.hb.length / 32) (Lib.byteCells x.hb) := fun y hy => by
    obtain ⟨x, hx, rfl⟩ := List.mem_map.1 hy
    exact ⟨x, hx, rfl, (h.o.2 x hx).h.n.1⟩
  refine ⟨fun y hy => ?_, List.pairwise_cons.2 ⟨fun y hy q hq => ?_, List.pairwise_append.2 ⟨?_, ?_, fun y hy z hz q hq => ?_⟩⟩, fun y hy q hq => ?_⟩
  · rcases List.mem_cons.1 hy with rfl | hy
    · exact LIt.ok h.o.1 hB
    rcases List.mem_append.1 hy with hy | hy
    · obtain ⟨x, hx, rfl, o⟩ := hd y hy
      exact LIt.ok o hB
    · obtain ⟨x, hx, rfl, o⟩ := hh y hy
      exact LIt.ok o hB
  · rcases List.mem_append.1 hy with hy | hy
    · obtain ⟨x, hx, rfl, o⟩ := hd y hy
      exact own_tag h.o.1 o (by decide) q hq
    · obtain ⟨x, hx, rfl, o⟩ := hh y hy
      exact own_tag h.o.1 o (by decide) q hq
  · refine List.pairwise_map.2 (List.pairwise_iff_getElem.2 fun i j hi hj hij q hq => ?_)
    exact (h.md i j _ _ hij (List.getElem?_eq_getElem hi) (List.getElem?_eq_getElem hj)).1 q hq
  · refine List.pairwise_map.2 (List.pairwise_iff_getElem.2 fun i j hi hj hij q hq => ?_)
    exact (h.md i j _ _ hij (List.getElem?_eq_getElem hi) (List.getElem?_eq_getElem hj)).2 q hq
  · obtain ⟨x, hx, rfl, o⟩ := hd y hy
    obtain ⟨x', hx', rfl, o'⟩ := hh z hz
    exact own_tag o o' (by decide) q hq
  · rcases List.mem_cons.1 hy with rfl | hy
    · exact ⟨(World.ownsRow.lt h.o.1 q hq).1, h.v q hq⟩
    rcases List.mem_append.1 hy with hy | hy
    · obtain ⟨x, hx, rfl, o⟩ := hd y hy
      exact ⟨(World.ownsRow.lt o q hq).1, h.d x hx q hq⟩
    · obtain ⟨x, hx, rfl, o⟩ := hh y hy
      exact ⟨(World.ownsRow.lt o q hq).1, h.h x hx q hq⟩
/-- a list of bytes that may have been written over -/
def EB (B : Nat) (v : Value) (n : Nat) : Itm := ⟨fun q => v.ownBlock = some q, fun w => ∃ l : List UInt8, l.length = n ∧ OW B w v l⟩
theorem EB.ok {B : Nat} {v : Value} {l : List UInt8} {n : Nat} {w : World} (h : OW B w v l) (hn : l.length = n) : (EB B v n).Ok B w :=
  ⟨⟨l, hn, h⟩, fun q hq => (h.blk q hq).1, fun q hq => (h.blk q hq).2, fun _ hf => ⟨l, hn, h.fr hf (fun _ hg => hg)⟩⟩
theorem EB.of {w0 w : World} {ls rs : List Itm} {v : Value} {l : List UInt8} (h : Bag w0 w (ls ++ LB w0.heap.size v l :: rs)) : Bag w0 w (ls ++ EB w0.heap.size v l.length :: rs) :=
  h.change (Fm.Fr.refl _ _) (EB.ok (h.ok (LB w0.heap.size v l) (by simp)).a rfl) (fun _ hq => .inl hq)
theorem EB.set {w0 w : World} {ls rs : List Itm} {a : Option Addr} {n ca : Nat} (h : Bag w0 w (ls ++ EB w0.heap.size (.slice a n ca) n :: rs)) (i : Nat) (hi : i < n) :
    ∃ g x, a = some ⟨g, 0, none⟩ ∧ (0 : Int) ≤ x ∧ x < 256 ∧ w.cell? ⟨g, i, none⟩ = some (.int .u8 x) ∧ w.frozen? ⟨g, i, none⟩ = false ∧ ∀ z : Int, 0 ≤ z → z < 256 → Bag w0 (w.setCell ⟨g, i, none⟩ (.int .u8 z)) (ls ++ EB w0.heap.size (.slice a n ca) n :: rs) := by
  obtain ⟨l, hl, ho⟩ := (h.ok (EB w0.heap.size (.slice a n ca) n) (by simp)).a
  obtain ⟨g, x, e, x0, x1, hc, hf, hz⟩ := AN.at (w := w) (wr := w) (B := w0.heap.size) (n := n) (ca := ca) (a := a) ⟨Fm.Fr.refl _ _, l, hl, ho⟩ i hi
  refine ⟨g, x, e, x0, x1, hc, hf, fun z z0 z1 => ?_⟩
  obtain ⟨_, l', hl', ho'⟩ := hz z z0 z1
  refine h.change ((Fm.Fr.refl _ _).setCell g i _ (fun hx => hx ?_)) (EB.ok ho' hl') (fun _ hq => .inl hq)
  show (Value.slice a n ca).ownBlock = some g
  rw [e]; rfl
/-- hashes that may have been written over -/
def EH (B : Nat) (v : Value) (n : Nat) : Itm := ⟨fun q => v.ownBlock = some q, fun w => ∃ l : List UInt8, l.length = n * 32 ∧ w.ownsRow B 24 32 v n (Lib.byteCells l)⟩
theorem EH.ok {B : Nat} {v : Value} {l : List UInt8} {n : Nat} {w : World} (h : w.ownsRow B 24 32 v n (Lib.byteCells l)) (hn : l.length = n * 32) : (EH B v n).Ok B w :=
  ⟨⟨l, hn, h⟩, fun q hq => (World.ownsRow.lt h q hq).1, fun q hq => (World.ownsRow.lt h q hq).2, fun _ hf => ⟨l, hn, ownsRow_frL h hf (fun _ hg => hg)⟩⟩
theorem EH.of {w0 w : World} {ls rs : List Itm} {v : Value} {l : List UInt8} (h : Bag w0 w (ls ++ LHn w0.heap.size v l :: rs)) (hl : l.length = l.length / 32 * 32) : Bag w0 w (ls ++ EH w0.heap.size v (l.length / 32) :: rs) :=
  h.change (Fm.Fr.refl _ _) (EH.ok (h.ok (LHn w0.heap.size v l) (by simp)).a hl) (fun _ hq => .inl hq)
theorem byteCells_take (l : List UInt8) (k : Nat) : (Lib.byteCells l).take k = Lib.byteCells (l.take k) := by simp [Lib.byteCells, List.map_take]
theorem byteCells_drop (l : List UInt8) (k : Nat) : (Lib.byteCells l).drop k = Lib.byteCells (l.drop k) := by simp [Lib.byteCells, List.map_drop]
theorem setR_toList : ∀ (us : List Value) (cur : Array Value) (o : Nat), o + us.length ≤ cur.size → (setR cur o us).toList = cur.toList.take o ++ us ++ cur.toList.drop (o + us.length)
  | [], cur, o, _ => by simp [setR]
  | u :: us, cur, o, h => by
    rw [List.length_cons] at h
    unfold setR
    rw [setR_toList us _ (o + 1) (by rw [Array.size_setIfInBounds]; omega), Array.toList_setIfInBounds]
    have ho : o < cur.toList.length := by rw [Array.length_toList]; omega
    rw [List.take_succ_eq_append_getElem (by simpa using ho), List.take_set_of_le (Nat.le_refl _), List.drop_set_of_lt (by omega)]
    simp [Nat.add_assoc, Nat.add_comm 1]
theorem EH.put {w0 w : World} {ls rs : List Itm} {a : Option Addr} {n ca : Nat} (h : Bag w0 w (ls ++ EH w0.heap.size (.slice a n ca) n :: rs)) (i : Nat) (hi : i < n) :
    ∃ g cs, a = some ⟨g, 0, none⟩ ∧ w.heap[g]? = some (.cells cs 24 (0, 0)) ∧ i * 32 + 32 ≤ cs.size ∧ n ≤ ca ∧ ∀ u : List UInt8, u.length = 32 → Bag w0 (w.setCells g (i * 32) (Lib.byteCells u)) (ls ++ EH w0.heap.size (.slice a n ca) n :: rs) := by
  obtain ⟨l, hl, ho⟩ := (h.ok (EH w0.heap.size (.slice a n ca) n) (by simp)).a
  rcases ho.2 with ⟨_, h0⟩ | ⟨g, cap, cur, e, h2, h3, h4, h5, h6, h7⟩
  · omega
  simp only [Value.slice.injEq] at e
  obtain ⟨rfl, _, rfl⟩ := e
  have hle : n * 32 ≤ ca * 32 := Nat.mul_le_mul_right _ h4
  have hin : i * 32 + 32 ≤ n * 32 := by omega
  refine ⟨g, cur, rfl, h3, by omega, h4, fun u hu => ?_⟩
  obtain ⟨k1, k2, k3, k4⟩ := setCells_rest (Lib.byteCells u) w g (i * 32)
  have hul : (Lib.byteCells u).length = 32 := by simp [Lib.byteCells, hu]
  refine h.change ⟨k1, k2, k3, by rw [k4]; exact Nat.le_refl _, fun k hk hs => setCells_other _ w g _ k (fun e => hs (by rw [e]; rfl))⟩ (EH.ok (l := l.take (i * 32) ++ u ++ l.drop (i * 32 + 32)) ?_ ?_) (fun _ hq => .inl hq)
  · refine ⟨?_, .inr ⟨g, ca, setR cur (i * 32) (Lib.byteCells u), rfl, h2, setCells_heap _ w g (i * 32) cur 24 h3, h4, h5, by rw [setR_size]; exact h6, ?_⟩⟩
    · simp [Lib.byteCells, hu, hl]; omega
    · rw [setR_toList _ _ _ (by rw [hul]; omega), hul]
      have hb : Lib.byteCells (l.take (i * 32) ++ u ++ l.drop (i * 32 + 32)) = (Lib.byteCells l).take (i * 32) ++ Lib.byteCells u ++ (Lib.byteCells l).drop (i * 32 + 32) := by simp [Lib.byteCells, List.map_take, List.map_drop]
      rw [hb, ← h7, List.take_take, Nat.min_eq_left (by omega), List.drop_take]
      have hA : (cur.toList.take (i * 32) ++ Lib.byteCells u).length = i * 32 + 32 := by rw [List.length_append, hul, List.length_take, Array.length_toList, Nat.min_eq_left (by omega)]
      rw [List.take_append, hA, List.take_of_length_le (by rw [hA]; omega)]
  · simp [hu, hl]; omega
end Go.Proofs.YtpembmfpgolniaaDoor
namespace Go.Proofs.YtpembmfpgolniaaDoor
open Go.RowKit
/-- one element is appended to a list, among others -/
theorem append_L {ops : Array Oper} {rest : List Oper} {o : Oper} {a : Act} {Q : Exit → Act → World → Prop} {w0 w : World} (ls rs : List Itm) {e t sz : Nat} {v0 : Value} {n : Nat} {xs us : List Value} (i0 : TypeInfo) (z : Value) (bytes : Nat) (hgd : o.guard = none) (s x : Operand)
    (ho : o.op = .call { callee := .builtin .append, args := #[s, x], argTypes := #[t, t] }) (h1 : Tryd.prog.underlying t = some (.slice e)) (h2 : Tryd.prog.info? e = some i0) (h3 : i0.zero = some z) (h4 : i0.size = sz) (h5 : i0.bytes = bytes) (h6 : z.cells.size = sz) (h7 : 0 < sz)
    (hs : a.eval s = v0) (hbag : Bag w0 w (ls ++ LIt w0.heap.size e sz v0 n xs :: rs)) (b : Nat) (hx : a.eval x = .slice (some ⟨b, 0, none⟩) 1 1) (hul : us.length = sz) (hc : ∀ j u, us[j]? = some u → w.cell? ((⟨b, 0, none⟩ : Addr).add j) = some u) (h1c : ∀ u ∈ us, u.oneCell' = true) (b1 : n + 1 ≤ maxLen) (b2 : (n + 1) * bytes ≤ 140737488355328)
    (h : ∀ a' c' w', Bag w0 w' (ls ++ LIt w0.heap.size e sz (.slice a' (n + 1) c') (n + 1) (xs ++ us) :: rs) → wpList Tryd.prog ops Q rest (a.put o.dst (.slice a' (n + 1) c')) w') : wpList Tryd.prog ops Q (o :: rest) a w := by
  have hrow : w.ownsRow w0.heap.size e sz v0 n xs := (hbag.ok (LIt w0.heap.size e sz v0 n xs) (by simp)).a
  have hform : ∀ {w' : World} {v : Value} {m : Nat} {ys : List Value}, w'.ownsRow w0.heap.size e sz v m ys → ∃ a c, v = .slice a m c := fun hh => by
    rcases hh.2 with ⟨rfl, h0⟩ | ⟨g, cap, _, rfl, _⟩
    · rw [h0]; exact ⟨none, 0, rfl⟩
    · exact ⟨_, cap, rfl⟩
  refine append_bothL (us := us) (m := 1) i0 z bytes hgd s x ho h1 h2 h3 h4 h5 h6 h7 (by omega) hs hrow ⟨b, 0, none⟩ 1 hx (by rw [hul, Nat.one_mul]) hc h1c hbag.bel.size b1 b2 (fun v' w' q1 q2 q3 q4 => ?_)
  obtain ⟨a', c', rfl⟩ := hform q1
  refine h a' c' w' (hbag.change ((grownFr q3).mono (fun q _ hq he => hq he.symm)) (LIt.ok q1 (Nat.le_refl _)) (fun q hq => ?_))
  rcases q4 with e1 | e1
  · exact .inl (by show v0.ownBlock = some q; rw [← e1]; exact hq)
  · exact .inr (e1 q hq)
/-- the lists of bytes of the messages, the first of them gone on with -/
def M1 (B : Nat) : Nat → List Mg → List Value → List Itm
  | _, [], _ => []
  | j, x :: ms, [] => LB B x.m.d x.D :: M1 B (j + 1) ms []
  | j, x :: ms, z :: zs => PI B 5 1 x.m.d x.D.length (Lib.byteCells x.D) z 70 (mkm (100 + j) 35) :: M1 B (j + 1) ms zs
/-- the lists of hashes likewise -/
def H1 (B : Nat) : Nat → List Mg → List Value → List Itm
  | _, [], _ => []
  | j, x :: ms, [] => LHn B x.m.h x.hb :: H1 B (j + 1) ms []
  | j, x :: ms, z :: zs => PI B 24 32 x.m.h (x.hb.length / 32) (Lib.byteCells x.hb) z 5 (hms (((100 + j : Nat) : Int) % 256) (((100 + j : Nat) : Int) / 256 % 256) 5) :: H1 B (j + 1) ms zs
theorem M1_nil (B : Nat) : ∀ (ms : List Mg) (j : Nat), M1 B j ms [] = DIs B ms
  | [], _ => rfl
  | x :: ms, j => by unfold M1; rw [M1_nil B ms (j + 1)]; rfl
theorem H1_nil (B : Nat) : ∀ (ms : List Mg) (j : Nat), H1 B j ms [] = HIs B ms
  | [], _ => rfl
  | x :: ms, j => by unfold H1; rw [H1_nil B ms (j + 1)]; rfl
theorem M1_at (B : Nat) {x : Mg} : ∀ (ms : List Mg) (j : Nat) (zs : List Value), ms[zs.length]? = some x → ∃ ls rs, M1 B j ms zs = ls ++ LB B x.m.d x.D :: rs ∧ ∀ z, M1 B j ms (zs ++ [z]) = ls ++ PI B 5 1 x.m.d x.D.length (Lib.byteCells x.D) z 70 (mkm (100 + (j + zs.length)) 35) :: rs
  | [], _, _, h => by simp at h
  | y :: ms, j, [], h => by
    simp at h
    subst h
    exact ⟨[], M1 B (j + 1) ms [], rfl, fun z => rfl⟩
  | y :: ms, j, z0 :: zs, h => by
    obtain ⟨ls, rs, h1, h2⟩ := M1_at B ms (j + 1) zs (by simpa using h)
    refine ⟨_ :: ls, rs, by unfold M1; rw [h1]; rfl, fun z => ?_⟩
    have e : j + (z0 :: zs).length = j + 1 + zs.length := by simp; omega
    rw [e]
    show M1 B j (y :: ms) (z0 :: (zs ++ [z])) = _
    unfold M1
    rw [h2 z]
    rfl
theorem H1_at (B : Nat) {x : Mg} : ∀ (ms : List Mg) (j : Nat) (zs : List Value), ms[zs.length]? = some x → ∃ ls rs, H1 B j ms zs = ls ++ LHn B x.m.h x.hb :: rs ∧ ∀ z, H1 B j ms (zs ++ [z]) = ls ++ PI B 24 32 x.m.h (x.hb.length / 32) (Lib.byteCells x.hb) z 5 (hms (((100 + (j + zs.length) : Nat) : Int) % 256) (((100 + (j + zs.length) : Nat) : Int) / 256 % 256) 5) :: rs
  | [], _, _, h => by simp at h
  | y :: ms, j, [], h => by
    simp at h
    subst h
    exact ⟨[], H1 B (j + 1) ms [], rfl, fun z => rfl⟩
  | y :: ms, j, z0 :: zs, h => by
    obtain ⟨ls, rs, h1, h2⟩ := H1_at B ms (j + 1) zs (by simpa using h)
    refine ⟨_ :: ls, rs, by unfold H1; rw [h1]; rfl, fun z => ?_⟩
    have e : j + (z0 :: zs).length = j + 1 + zs.length := by simp; omega
    rw [e]
    show H1 B j (y :: ms) (z0 :: (zs ++ [z])) = _
    unfold H1
    rw [h2 z]
    rfl
theorem M1_get (B : Nat) {x : Mg} {z : Value} : ∀ (ms : List Mg) (j : Nat) (zs : List Value) (i : Nat), ms[i]? = some x → zs[i]? = some z → PI B 5 1 x.m.d x.D.length (Lib.byteCells x.D) z 70 (mkm (100 + (j + i)) 35) ∈ M1 B j ms zs
  | [], _, _, _, h, _ => by simp at h
  | y :: ms, j, [], i, _, h => by simp at h
  | y :: ms, j, z0 :: zs, 0, h, h' => by
    simp at h h'
    subst h
    subst h'
    unfold M1
    simp
  | y :: ms, j, z0 :: zs, i + 1, h, h' => by
    have := M1_get B ms (j + 1) zs i (by simpa using h) (by simpa using h')
    unfold M1
    rw [show j + (i + 1) = j + 1 + i by omega]
    exact List.mem_cons_of_mem _ this
theorem H1_get (B : Nat) {x : Mg} {z : Value} : ∀ (ms : List Mg) (j : Nat) (zs : List Value) (i : Nat), ms[i]? = some x → zs[i]? = some z → PI B 24 32 x.m.h (x.hb.length / 32) (Lib.byteCells x.hb) z 5 (hms (((100 + (j + i) : Nat) : Int) % 256) (((100 + (j + i) : Nat) : Int) / 256 % 256) 5) ∈ H1 B j ms zs
  | [], _, _, _, h, _ => by simp at h
  | y :: ms, j, [], i, _, h => by simp at h
  | y :: ms, j, z0 :: zs, 0, h, h' => by
    simp at h h'
    subst h
    subst h'
    unfold H1
    simp
  | y :: ms, j, z0 :: zs, i + 1, h, h' => by
    have := H1_get B ms (j + 1) zs i (by simpa using h) (by simpa using h')
    unfold H1
    rw [show j + (i + 1) = j + 1 + i by omega]
    exact List.mem_cons_of_mem _ this
theorem M1_own {B : Nat} {w : World} : ∀ (ms : List Mg) (j : Nat) (zs : List Value), (∀ y ∈ M1 B j ms zs, y.Ok B w) → ∀ x ∈ ms, OW B w x.m.d x.D
  | [], _, _, _, x, hx => by simp at hx
  | y :: ms, j, [], h, x, hx => by
    rcases List.mem_cons.1 hx with rfl | hx
    · exact (h (LB B x.m.d x.D) (by unfold M1; simp)).a
    · exact M1_own ms (j + 1) [] (fun y hy => h y (by unfold M1; exact List.mem_cons_of_mem _ hy)) x hx
  | y :: ms, j, z0 :: zs, h, x, hx => by
    rcases List.mem_cons.1 hx with rfl | hx
    · exact (h (PI B 5 1 x.m.d x.D.length (Lib.byteCells x.D) z0 70 (mkm (100 + j) 35)) (by unfold M1; simp)).a.1
    · exact M1_own ms (j + 1) zs (fun y hy => h y (by unfold M1; exact List.mem_cons_of_mem _ hy)) x hx
theorem H1_own {B : Nat} {w : World} : ∀ (ms : List Mg) (j : Nat) (zs : List Value), (∀ y ∈ H1 B j ms zs, y.Ok B w) → ∀ x ∈ ms, w.ownsRow B 24 32 x.m.h (x.hb.length / 32) (Lib.byteCells x.hb)
  | [], _, _, _, x, hx => by simp at hx
  | y :: ms, j, [], h, x, hx => by
    rcases List.mem_cons.1 hx with rfl | hx
    · exact (h (LHn B x.m.h x.hb) (by unfold H1; simp)).a
    · exact H1_own ms (j + 1) [] (fun y hy => h y (by unfold H1; exact List.mem_cons_of_mem _ hy)) x hx
  | y :: ms, j, z0 :: zs, h, x, hx => by
    rcases List.mem_cons.1 hx with rfl | hx
    · exact (h (PI B 24 32 x.m.h (x.hb.length / 32) (Lib.byteCells x.hb) z0 5 (hms (((100 + j : Nat) : Int) % 256) (((100 + j : Nat) : Int) / 256 % 256) 5)) (by unfold H1; simp)).a.1
    · exact H1_own ms (j + 1) zs (fun y hy => h y (by unfold H1; exact List.mem_cons_of_mem _ hy)) x hx
/-- what the messages are beside their lists -/
def MOk (ms : List Mg) : Prop := ∀ x ∈ ms, x.m.ok ∧ x.D.length ≤ 32768 ∧ x.hb.length ≤ 32768 ∧ x.hb.length = x.hb.length / 32 * 32
theorem OMI.mok {lo hi : Nat} {w : World} {v : Value} {ms : List Mg} (h : OMI lo hi w v ms) : MOk ms := fun x hx => ⟨(h.o.2 x hx).ok, (h.o.2 x hx).dl, (h.o.2 x hx).hl, (h.o.2 x hx).h.n.2⟩
/-- the state in the loop over the messages -/
def RB1 (w0 w : World) (mv hv rv : Value) (ms : List Mg) (zs ys : List Value) (R : List Itm) : Prop :=
  Bag w0 w (LIt w0.heap.size 22 1 mv zs.length zs :: LIt w0.heap.size 25 1 hv ys.length ys :: (M1 w0.heap.size 0 ms zs ++ (H1 w0.heap.size 0 ms ys ++ (LIt w0.heap.size 27 40 rv ms.length (ms.flatMap fun x : Mg => x.m.ls) :: R))))
theorem RB1.oms {w0 w : World} {mv hv rv : Value} {ms : List Mg} {zs ys : List Value} {R : List Itm} (h : RB1 w0 w mv hv rv ms zs ys R) (hk : MOk ms) : OMS w0.heap.size w rv ms := by
  refine ⟨(h.ok (LIt w0.heap.size 27 40 rv ms.length (ms.flatMap fun x : Mg => x.m.ls)) (by simp)).a, fun x hx => ?_⟩
  obtain ⟨k1, k2, k3, k4⟩ := hk x hx
  exact ⟨k1, M1_own ms 0 zs (fun y hy => h.ok y (by simp [hy])) x hx, ⟨_, k4, H1_own ms 0 ys (fun y hy => h.ok y (by simp [hy])) x hx⟩, k2, k3⟩
theorem RB1.str {w0 w w' : World} {mv hv rv z : Value} {ms : List Mg} {zs ys : List Value} {R : List Itm} {x : Mg} (h : RB1 w0 w mv hv rv ms zs ys R) (hx : ms[zs.length]? = some x) (g : GIL w w0.heap.size 5 1 x.m.d x.D.length (Lib.byteCells x.D) 70 (mkm (100 + zs.length) 35) z w') :
    Bag w0 w' (LIt w0.heap.size 22 1 mv zs.length zs :: LIt w0.heap.size 25 1 hv ys.length ys :: (M1 w0.heap.size 0 ms (zs ++ [z]) ++ (H1 w0.heap.size 0 ms ys ++ (LIt w0.heap.size 27 40 rv ms.length (ms.flatMap fun x : Mg => x.m.ls) :: R)))) := by
  obtain ⟨ls, rs, h1, h2⟩ := M1_at w0.heap.size ms 0 zs hx
  unfold RB1 at h
  rw [h1] at h
  rw [h2 z, Nat.zero_add]
  have := PI.of_gil (ls := LIt w0.heap.size 22 1 mv zs.length zs :: LIt w0.heap.size 25 1 hv ys.length ys :: ls) (rs := rs ++ (H1 w0.heap.size 0 ms ys ++ (LIt w0.heap.size 27 40 rv ms.length (ms.flatMap fun x : Mg => x.m.ls) :: R))) (by simpa [LB, List.append_assoc] using h) g
  simpa [List.append_assoc] using this
theorem RB1.strH {w0 w w' : World} {mv hv rv z : Value} {ms : List Mg} {zs ys : List Value} {R : List Itm} {x : Mg} (h : RB1 w0 w mv hv rv ms zs ys R) (hx : ms[ys.length]? = some x) (g : GIL w w0.heap.size 24 32 x.m.h (x.hb.length / 32) (Lib.byteCells x.hb) 5 (hms (((100 + ys.length : Nat) : Int) % 256) (((100 + ys.length : Nat) : Int) / 256 % 256) 5) z w') :
    Bag w0 w' (LIt w0.heap.size 22 1 mv zs.length zs :: LIt w0.heap.size 25 1 hv ys.length ys :: (M1 w0.heap.size 0 ms zs ++ (H1 w0.heap.size 0 ms (ys ++ [z]) ++ (LIt w0.heap.size 27 40 rv ms.length (ms.flatMap fun x : Mg => x.m.ls) :: R)))) := by
  obtain ⟨ls, rs, h1, h2⟩ := H1_at w0.heap.size ms 0 ys hx
  unfold RB1 at h
  rw [h1] at h
  rw [h2 z, Nat.zero_add]
  have := PI.of_gil (ls := LIt w0.heap.size 22 1 mv zs.length zs :: LIt w0.heap.size 25 1 hv ys.length ys :: (M1 w0.heap.size 0 ms zs ++ ls)) (rs := rs ++ (LIt w0.heap.size 27 40 rv ms.length (ms.flatMap fun x : Mg => x.m.ls) :: R)) (by simpa [LHn, List.append_assoc] using h) g
  simpa [List.append_assoc] using this
/-- a message among them, as it lies in memory -/
theorem OMS.cellsAt {B : Nat} {w : World} {a : Option Addr} {n c : Nat} {ms : List Mg} (h : OMS B w (.slice a n c) ms) {i : Nat} {x : Mg} (hx : ms[i]? = some x) : n = ms.length ∧ ∃ g, a = some ⟨g, 0, none⟩ ∧ g < w.heap.size ∧ (∀ j u, x.m.ls[j]? = some u → w.cell? ⟨g, i * 40 + j, none⟩ = some u) ∧ w.cell? ⟨g, i * 40 + 4, none⟩ = some x.m.d ∧ w.cell? ⟨g, i * 40 + 39, none⟩ = some x.m.h := by
  have hi := (List.getElem?_eq_some_iff.1 hx).1
  obtain ⟨a', c', e, _, hc, _⟩ := h.rms
  simp only [Value.slice.injEq] at e
  obtain ⟨rfl, rfl, rfl⟩ := e
  rcases hc with rfl | ⟨g, o, rfl, hg, hc⟩
  · simp at hx
  rcases h.1.2 with ⟨e, h0⟩ | ⟨g', cap, cur, e, _⟩
  · omega
  simp only [Value.slice.injEq, Option.some.injEq, Addr.mk.injEq] at e
  obtain ⟨⟨rfl, rfl, _⟩, _⟩ := e
  have h1 : ∀ j u, x.m.ls[j]? = some u → w.cell? ⟨g, i * 40 + j, none⟩ = some u := fun j u hu => by
    have := hc i x hx j u hu
    rwa [Nat.zero_add] at this
  have ok := (h.2 x (List.mem_of_getElem? hx)).ok
  refine ⟨rfl, g, rfl, hg, h1, h1 4 _ rfl, h1 39 _ ok.g39⟩
end Go.Proofs.YtpembmfpgolniaaDoor
namespace Go.Proofs.YtpembmfpgolniaaDoor
open Go.RowKit
theorem BagU.owi {w0 w : World} {xs : List Itm} {hi lo hi' : Nat} {v : Value} {l : List UInt8} (h : BagU w0 w xs hi) (o : OWI lo hi' w v l) (h0 : w0.heap.size ≤ lo) (h1 : hi ≤ lo) (h2 : hi ≤ hi') : BagU w0 w (LB w0.heap.size v l :: xs) hi' :=
  h.one (LIt.ok o.1 h0) (fun q hq => ⟨(o.1.blk q hq).1, o.2 q hq⟩) h1 h2
theorem BagU.ohi {w0 w : World} {xs : List Itm} {hi lo hi' : Nat} {v : Value} {l : List UInt8} (h : BagU w0 w xs hi) (o : OHI lo hi' w v l) (h0 : w0.heap.size ≤ lo) (h1 : hi ≤ lo) (h2 : hi ≤ hi') : BagU w0 w (LHn w0.heap.size v l :: xs) hi' :=
  h.one (LIt.ok o.1.n.1 h0) (fun q hq => ⟨(o.1.blk q hq).1, o.2 q hq⟩) h1 h2
theorem BagU.mb {w0 w : World} {xs : List Itm} {hi g hi' : Nat} {m : Mv} (h : BagU w0 w xs hi) (o : MB w g m) (h0 : w0.heap.size ≤ g) (h1 : hi ≤ g) (h2 : g < hi') : BagU w0 w (MI g m :: xs) hi' :=
  h.one (lo := g) (MI.ok o h0) (fun q hq => by cases hq; exact ⟨Nat.le_refl _, h2⟩) h1 (by omega)
theorem BagU.two {w0 w : World} {xs : List Itm} {hi lo hi' : Nat} {d v : Value} {D l : List UInt8} (h : BagU w0 w xs hi) (od : OWI lo hi' w d D) (oh : OHI lo hi' w v l) (h0 : w0.heap.size ≤ lo) (h1 : hi ≤ lo) (h2 : hi ≤ hi') : BagU w0 w (LHn w0.heap.size v l :: LB w0.heap.size d D :: xs) hi' :=
  h.app (ys := [LHn w0.heap.size v l, LB w0.heap.size d D]) (lo := lo) (fun y hy => by
    have hy' : y = LHn w0.heap.size v l ∨ y = LB w0.heap.size d D := by simpa using hy
    rcases hy' with rfl | rfl
    · exact LIt.ok oh.1.n.1 h0
    · exact LIt.ok od.1 h0) (List.pairwise_pair.2 (own_tag oh.1.n.1 od.1 (by decide))) (fun y hy q hq => by
    have hy' : y = LHn w0.heap.size v l ∨ y = LB w0.heap.size d D := by simpa using hy
    rcases hy' with rfl | rfl
    · exact ⟨(oh.1.blk q hq).1, oh.2 q hq⟩
    · exact ⟨(od.1.blk q hq).1, od.2 q hq⟩) h1 h2
theorem BagU.rows {w0 w : World} {xs : List Itm} {hi lo hi' : Nat} {v : Value} {ms : List Mg} (h : BagU w0 w xs hi) (o : OMI lo hi' w v ms) (h0 : w0.heap.size ≤ lo) (h1 : hi ≤ lo) (h2 : hi ≤ hi') : BagU w0 w ((LIt w0.heap.size 27 40 v ms.length (ms.flatMap fun x : Mg => x.m.ls) :: (DIs w0.heap.size ms ++ HIs w0.heap.size ms)) ++ xs) hi' := by
  obtain ⟨k1, k2, k3⟩ := rows_items o h0
  exact h.app (lo := lo) k1 k2 k3 h1 h2
/-- the two messages, if there are two -/
theorem pair_fact {w : World} {x : Mg} (h : MM w x.m x.D x.hb) {lw : List UInt8} (hlw : lw = if wirE [x, x] = 0 then wirB [x, x] else []) {bs : List (List UInt8)} {r : List UInt8} {er : Int} (R : Fm.Rd false lw [] bs false r er) {ms : List Mg} (hof : MsOf ms (gds bs)) :
    (wirE [x, x] = 0 ∧ ms.length = 2 ∧ MsEq ms [x, x]) ∨ (wirE [x, x] ≠ 0 ∧ ms = []) := by
  by_cases hE : wirE [x, x] = 0
  · rw [if_pos hE] at hlw
    subst hlw
    obtain ⟨h1, h2⟩ := pair_two h hE R hof
    exact .inl ⟨hE, h1, h2⟩
  · rw [if_neg hE] at hlw
    subst hlw
    exact .inr ⟨hE, pair_none R hof⟩
theorem perm4 {α : Type} (A X R T : List α) : (A ++ (X ++ (R ++ T))).Perm (X ++ T ++ (A ++ R)) := by
  have h1 : (A ++ (X ++ (R ++ T))).Perm (A ++ (X ++ (T ++ R))) := List.Perm.append_left A (List.Perm.append_left X List.perm_append_comm)
  have h2 : A ++ (X ++ (T ++ R)) = (A ++ (X ++ T)) ++ R := by simp [List.append_assoc]
  have h3 : ((A ++ (X ++ T)) ++ R).Perm (((X ++ T) ++ A) ++ R) := List.Perm.append_right R List.perm_append_comm
  have h4 : ((X ++ T) ++ A) ++ R = X ++ T ++ (A ++ R) := by simp [List.append_assoc]
  rw [h2] at h1
  rw [h4] at h3
  exact h1.trans h3
theorem perm5 {α : Type} (F P D H : List α) (r : α) : (F ++ (P ++ (r :: (D ++ H)))).Perm (D ++ (H ++ (r :: (F ++ P)))) := by
  have h1 : F ++ (P ++ (r :: (D ++ H))) = (F ++ P) ++ ([r] ++ (D ++ H)) := by simp
  have h2 : D ++ (H ++ (r :: (F ++ P))) = (D ++ H) ++ ([r] ++ (F ++ P)) := by simp
  rw [h1, h2]
  refine List.perm_append_comm.trans ?_
  have h3 : [r] ++ (D ++ H) ++ (F ++ P) = [r] ++ ((D ++ H) ++ (F ++ P)) := by simp
  have h4 : ((D ++ H) ++ ([r] ++ (F ++ P))) = ((D ++ H) ++ [r]) ++ (F ++ P) := by simp
  rw [h4]
  exact List.Perm.append_right _ List.perm_append_comm
end Go.Proofs.YtpembmfpgolniaaDoor
namespace Go.Proofs.YtpembmfpgolniaaDoor
open Go.RowKit
theorem al_bel (W : World) (o : Obj) : Below W.heap.size W (W.alloc o) := (Below.refl _ _).alloc (Nat.le_refl _) _
theorem Bag.addL {w0 w w' : World} {xs : List Itm} {e sz n : Nat} {v : Value} {ys : List Value} (h : Bag w0 w xs) (hb : Below w.heap.size w w') (hy : w'.ownsRow w.heap.size e sz v n ys) : Bag w0 w' (LIt w0.heap.size e sz v n ys :: xs) := by
  have h1 := LIt.ok hy h.bel.size
  exact h.add hb _ ⟨h1.a, fun q hq => (World.ownsRow.lt hy q hq).1, h1.hi, h1.loc⟩
theorem LB_form {B : Nat} {v : Value} {l : List UInt8} {w : World} (h : (LB B v l).A w) : ∃ a c, v = .slice a l.length c := OW.form (B := B) (w := w) h
theorem own_form {w : World} {B e sz n : Nat} {v : Value} {xs : List Value} (h : w.ownsRow B e sz v n xs) : ∃ a c, v = .slice a n c := by
  rcases h.2 with ⟨rfl, h0⟩ | ⟨g, cap, _, rfl, _⟩
  · rw [h0]; exact ⟨none, 0, rfl⟩
  · exact ⟨_, cap, rfl⟩
theorem info_h : (Tryd.prog.info? 25).map (fun i => (i.zero, i.size, i.bytes)) = some (some (.slice none 0 0), 1, 24) := by kernel_rfl
theorem info_b : (Tryd.prog.info? 22).map (fun i => (i.zero, i.size, i.bytes)) = some (some (.slice none 0 0), 1, 24) := by kernel_rfl
theorem one_cell (w : World) (v : Value) (t : TypeId) : ∀ (j : Nat) (u : Value), ([v] : List Value)[j]? = some u → (w.alloc (.cells #[v] t)).cell? ((⟨w.heap.size, 0, none⟩ : Addr).add j) = some u := row_cells w [v] t
theorem Bag.get {w0 w : World} {xs : List Itm} (h : Bag w0 w xs) (i : Nat) (hi : i < xs.length) : (xs[i]).A w := (h.ok _ (List.getElem_mem hi)).a
theorem hm1_len (x : Int) : (hm1 x).length = 32 := rfl
theorem hm1_0 (x : Int) : (hm1 x)[0]? = some (.int .u8 x) := rfl
/-- a message whose lists are among the things -/
theorem mm_of {B : Nat} {w : World} {m : Mv} {D hb : List UInt8} (ok : m.ok) (hd : OW B w m.d D) (hh : w.ownsRow B 24 32 m.h (hb.length / 32) (Lib.byteCells hb)) (h32 : hb.length = hb.length / 32 * 32) (h1 : D.length ≤ 140737488351232) (h2 : hb.length ≤ 140737488351232) : MM w m D hb :=
  ⟨ok, hd.rb, OH.rh ⟨_, h32, hh⟩, h1, h2⟩
end Go.Proofs.YtpembmfpgolniaaDoor
namespace Go.Proofs.YtpembmfpgolniaaDoor
open Go.RowKit
theorem rowsAt {w : World} {B : Nat} {a : Option Addr} {n c : Nat} {ms : List Mg} (h : w.ownsRow B 27 40 (.slice a n c) ms.length (ms.flatMap fun x : Mg => x.m.ls)) (hk : MOk ms) {i : Nat} {x : Mg} (hx : ms[i]? = some x) : ∃ g, a = some ⟨g, 0, none⟩ ∧ g < w.heap.size ∧ (∀ j u, x.m.ls[j]? = some u → w.cell? ⟨g, i * 40 + j, none⟩ = some u) ∧ w.cell? ⟨g, i * 40 + 4, none⟩ = some x.m.d ∧ w.cell? ⟨g, i * 40 + 39, none⟩ = some x.m.h := by
  have hi := (List.getElem?_eq_some_iff.1 hx).1
  have h40 : ∀ y ∈ ms, y.m.ls.length = 40 := fun y hy => ok_ls (hk y hy).1
  rcases h.2 with ⟨_, h0⟩ | ⟨g, cap, cur, e, _, h3, _⟩
  · omega
  simp only [Value.slice.injEq] at e
  obtain ⟨rfl, rfl, rfl⟩ := e
  have h1 : ∀ j u, x.m.ls[j]? = some u → w.cell? ⟨g, i * 40 + j, none⟩ = some u := fun j u hu => by
    have hj : j < 40 := by
      have := (List.getElem?_eq_some_iff.1 hu).1
      rwa [h40 x (List.mem_of_getElem? hx)] at this
    rw [World.ownsRow.cellAt h (i * 40 + j) (by omega), flat40 ms h40 i x hx j hj]
    exact hu
  exact ⟨g, rfl, (Array.getElem?_eq_some_iff.1 h3).1, h1, h1 4 _ rfl, h1 39 _ (hk x (List.mem_of_getElem? hx)).1.g39⟩
theorem RB1.start {w0 w : World} {rv : Value} {ms : List Mg} (F P : List Itm) (h : Bag w0 w (F ++ (P ++ (LIt w0.heap.size 27 40 rv ms.length (ms.flatMap fun x : Mg => x.m.ls) :: (DIs w0.heap.size ms ++ HIs w0.heap.size ms))))) : RB1 w0 w (.slice none 0 0) (.slice none 0 0) rv ms [] [] (F ++ P) := by
  unfold RB1
  rw [M1_nil, H1_nil]
  exact ((h.perm (perm5 F P _ _ _)).addL (Below.refl _ _) (World.ownsRow_nil _ _ _ _)).addL (Below.refl _ _) (World.ownsRow_nil _ _ _ _)
theorem RB1.rest {w0 w : World} {mv hv rv : Value} {ms : List Mg} {zs ys : List Value} {R : List Itm} (h : RB1 w0 w mv hv rv ms zs ys R) : Bag w0 w R := by
  refine h.sub ?_
  refine List.Sublist.cons _ (List.Sublist.cons _ ?_)
  exact ((List.sublist_cons_self _ R).trans (List.sublist_append_right _ _)).trans (List.sublist_append_right _ _)
theorem RB1.below {w0 w w' : World} {mv hv rv : Value} {ms : List Mg} {zs ys : List Value} {R : List Itm} (h : RB1 w0 w mv hv rv ms zs ys R) (hb : Below w.heap.size w w') : RB1 w0 w' mv hv rv ms zs ys R := Bag.below h hb
theorem RB1.rows {w0 w : World} {mv hv rv : Value} {ms : List Mg} {zs ys : List Value} {R : List Itm} (h : RB1 w0 w mv hv rv ms zs ys R) : w.ownsRow w0.heap.size 27 40 rv ms.length (ms.flatMap fun x : Mg => x.m.ls) := (h.ok (LIt w0.heap.size 27 40 rv ms.length (ms.flatMap fun x : Mg => x.m.ls)) (by simp)).a
theorem RB1.d {w0 w : World} {mv hv rv : Value} {ms : List Mg} {zs ys : List Value} {R : List Itm} (h : RB1 w0 w mv hv rv ms zs ys R) {x : Mg} (hx : x ∈ ms) : OW w0.heap.size w x.m.d x.D := M1_own ms 0 zs (fun y hy => Bag.ok h y (by simp [hy])) x hx
theorem RB1.h {w0 w : World} {mv hv rv : Value} {ms : List Mg} {zs ys : List Value} {R : List Itm} (h : RB1 w0 w mv hv rv ms zs ys R) {x : Mg} (hx : x ∈ ms) : w.ownsRow w0.heap.size 24 32 x.m.h (x.hb.length / 32) (Lib.byteCells x.hb) := H1_own ms 0 ys (fun y hy => Bag.ok h y (by simp [hy])) x hx
theorem mkm_get (m : Nat) : ∀ (k j : Nat), j < k → (mkm m k)[2 * j]? = some (.int .u8 ((m : Int) % 256)) ∧ (mkm m k)[2 * j + 1]? = some (.int .u8 ((m : Int) / 256 % 256))
  | 0, j, h => by omega
  | k + 1, j, h => by
    have hl : ∀ k, (mkm m k).length = 2 * k := fun k => by simp [mkm]; omega
    rw [mkm_succ]
    by_cases hj : j < k
    · have := mkm_get m k j hj
      rw [List.getElem?_append_left (by rw [hl]; omega), List.getElem?_append_left (by rw [hl]; omega)]
      exact this
    · obtain rfl : j = k := by omega
      rw [List.getElem?_append_right (by rw [hl]; omega), List.getElem?_append_right (by rw [hl]; omega), hl]
      simp
theorem hms_get (x y : Int) : ∀ (k j i : Nat) (u : Value), j < k → (hmk x y)[i]? = some u → (hms x y k)[j * 32 + i]? = some u
  | 0, j, _, _, h, _ => by omega
  | k + 1, j, i, u, h, hu => by
    have hl : ∀ k, (hms x y k).length = 32 * k := fun k => by simp [hms, hmk_len]; omega
    have hi : i < 32 := by have := (List.getElem?_eq_some_iff.1 hu).1; rwa [hmk_len] at this
    rw [hms_succ]
    by_cases hj : j < k
    · rw [List.getElem?_append_left (by rw [hl]; omega)]
      exact hms_get x y k j i u hj hu
    · obtain rfl : j = k := by omega
      rw [List.getElem?_append_right (by rw [hl]; omega), hl, show j * 32 + i - 32 * j = i by omega]
      exact hu
/-- the marks of a message: where they lie -/
theorem RB1.mark {w0 w : World} {ma ha : Option Addr} {n1 n2 mc hc : Nat} {rv : Value} {ms : List Mg} {zs ys : List Value} {R : List Itm} (h : RB1 w0 w (.slice ma n1 mc) (.slice ha n2 hc) rv ms zs ys R) {i : Nat} {x : Mg} (hx : ms[i]? = some x) (h1 : i < zs.length) (h2 : i < ys.length) :
    n1 = zs.length ∧ n2 = ys.length ∧ ∃ gm gh gz cz gy cy, ma = some ⟨gm, 0, none⟩ ∧ ha = some ⟨gh, 0, none⟩ ∧ w.cell? ⟨gm, i, none⟩ = some (.slice (some ⟨gz, 0, none⟩) (x.D.length + 70) cz) ∧ w.cell? ⟨gh, i, none⟩ = some (.slice (some ⟨gy, 0, none⟩) (x.hb.length / 32 + 5) cy) ∧
    (∀ j, j < 35 → w.cell? ⟨gz, x.D.length + 2 * j, none⟩ = some (.int .u8 ((100 + (i : Int)) % 256)) ∧ w.cell? ⟨gz, x.D.length + 2 * j + 1, none⟩ = some (.int .u8 ((100 + (i : Int)) / 256 % 256))) ∧
    (∀ j, j < 5 → w.rangeAt gy ((x.hb.length / 32 + j) * 32) (hmk ((100 + (i : Int)) % 256) ((100 + (i : Int)) / 256 % 256))) := by
  have hm : w.ownsRow w0.heap.size 22 1 (.slice ma n1 mc) zs.length zs := (Bag.ok h (LIt w0.heap.size 22 1 (.slice ma n1 mc) zs.length zs) (by simp)).a
  have hh : w.ownsRow w0.heap.size 25 1 (.slice ha n2 hc) ys.length ys := (Bag.ok h (LIt w0.heap.size 25 1 (.slice ha n2 hc) ys.length ys) (by simp)).a
  have hz := List.getElem?_eq_getElem h1
  have hy := List.getElem?_eq_getElem h2
  have p1 := (Bag.ok h _ (List.mem_cons_of_mem _ (List.mem_cons_of_mem _ (List.mem_append_left _ (M1_get w0.heap.size ms 0 zs i hx hz))) : PI w0.heap.size 5 1 x.m.d x.D.length (Lib.byteCells x.D) zs[i] 70 (mkm (100 + (0 + i)) 35) ∈ _)).a
  have p2 := (Bag.ok h _ (List.mem_cons_of_mem _ (List.mem_cons_of_mem _ (List.mem_append_right _ (List.mem_append_left _ (H1_get w0.heap.size ms 0 ys i hx hy)))) : PI w0.heap.size 24 32 x.m.h (x.hb.length / 32) (Lib.byteCells x.hb) ys[i] 5 (hms (((100 + (0 + i) : Nat) : Int) % 256) (((100 + (0 + i) : Nat) : Int) / 256 % 256) 5) ∈ _)).a
  obtain ⟨za, zc, ez⟩ := own_form p1.2.choose_spec.2
  obtain ⟨ya, yc, ey⟩ := own_form p2.2.choose_spec.2
  rw [ez] at p1
  rw [ey] at p2
  obtain ⟨_, _, gz, ez', t1⟩ := PI.tail p1 (by omega)
  obtain ⟨_, _, gy, ey', t2⟩ := PI.tail p2 (by omega)
  have cast : ((100 + (0 + i) : Nat) : Int) = 100 + (i : Int) := by omega
  have form1 : n1 = zs.length ∧ ∃ g, ma = some ⟨g, 0, none⟩ := by
    rcases hm.2 with ⟨_, h0⟩ | ⟨g, cap, _, e, _⟩
    · omega
    · simp only [Value.slice.injEq] at e
      exact ⟨e.2.1, g, e.1⟩
  have form2 : n2 = ys.length ∧ ∃ g, ha = some ⟨g, 0, none⟩ := by
    rcases hh.2 with ⟨_, h0⟩ | ⟨g, cap, _, e, _⟩
    · omega
    · simp only [Value.slice.injEq] at e
      exact ⟨e.2.1, g, e.1⟩
  obtain ⟨e1, gm, rfl⟩ := form1
  obtain ⟨e2, gh, rfl⟩ := form2
  subst e1 e2
  have c1 := World.ownsRow.cellAt hm i (by rw [Nat.mul_one]; exact h1)
  have c2 := World.ownsRow.cellAt hh i (by rw [Nat.mul_one]; exact h2)
  refine ⟨rfl, rfl, gm, gh, gz, zc, gy, yc, rfl, rfl, ?_, ?_, fun j hj => ?_, fun j hj i' u hu => ?_⟩
  · rw [c1, hz, ez, ez']
  · rw [c2, hy, ey, ey']
  · obtain ⟨k1, k2⟩ := mkm_get (100 + (0 + i)) 35 j hj
    rw [cast] at k1 k2
    have a1 := t1 _ _ k1
    have a2 := t1 _ _ k2
    rw [Nat.mul_one] at a1 a2
    exact ⟨a1, by rw [Nat.add_assoc]; exact a2⟩
  · rw [cast] at t2
    have := t2 _ _ (hms_get _ _ 5 j i' u hj hu)
    rw [show (x.hb.length / 32 + j) * 32 + i' = x.hb.length / 32 * 32 + (j * 32 + i') by omega]
    exact this
end Go.Proofs.YtpembmfpgolniaaDoor
namespace Go.Proofs.YtpembmfpgolniaaDoor
open Go.RowKit
theorem yieldsIf_built3 {ops : Array Oper} {S : World → Prop} {op : Oper} {a : Act} (hw : Region.wanted op (yielded ops a.tmps) = true) (t : TypeId) (x0 x1 x2 : Operand) (ho : op.op = .build t #[(0, x0), (1, x1), (2, x2)]) (v0 v1 v2 : Value) (h0 : a.eval x0 = v0) (h1 : a.eval x1 = v1) (h2 : a.eval x2 = v2) (T : Array Value)
    (hT : Tryd.prog.built t [(0, v0), (1, v1), (2, v2)] = some T) : YieldsIf Tryd.prog ops S op (.agg T) a :=
  .inl ⟨hw, fun w _ => by
    have hf : Tryd.prog.built t (#[(0, x0), (1, x1), (2, x2)].map fun (i, x) => (i, a.eval x)).toList = some T := by
      rw [← hT]
      simp [h0, h1, h2]
    have h := run_build w t _ T hf
    unfold execOp
    simp only [ho, Sem.run_bind, h, Result.andThen_ok, Sem.run_pure]⟩
theorem hk2_built : Tryd.prog.built 24 [(0, .int .u8 7), (1, .int .u8 7)] = some (Lib.byteCells (7 :: 7 :: List.replicate 30 (0 : UInt8))).toArray := by kernel_rfl
theorem hk1_built : Tryd.prog.built 24 [(0, .int .u8 8)] = some (Lib.byteCells (8 :: List.replicate 31 (0 : UInt8))).toArray := by kernel_rfl
theorem there_row {w : World} {b o n : Nat} {cs : Array Value} {t : TypeId} (hg : w.heap[b]? = some (.cells cs t (0, 0))) (h : o + n ≤ cs.size) : w.there b o n := fun j hj => by
  have hlt : o + j < cs.size := by omega
  exact ⟨by simp [World.cell?, hg, hlt], by simp [World.frozen?, hg]⟩
theorem EB.own {B : Nat} {v : Value} {n : Nat} {w : World} (h : (EB B v n).A w) : ∃ l : List UInt8, l.length = n ∧ OW B w v l := h
end Go.Proofs.YtpembmfpgolniaaDoor
namespace Go.Proofs.YtpembmfpgolniaaDoor
open Go.RowKit
theorem addr0L (g j : Nat) : (⟨g, 0, none⟩ : Addr).add j = ⟨g, j, none⟩ := by
  have : (⟨g, 0, none⟩ : Addr).add j = ⟨g, 0 + j, none⟩ := by unfold Addr.add; split <;> simp_all
  simpa using this
/-- nothing -/
def NI : Itm := ⟨fun _ => False, fun _ => True⟩
theorem NI.ok (B : Nat) (w : World) : NI.Ok B w := ⟨trivial, fun _ h => h.elim, fun _ h => h.elim, fun _ _ => trivial⟩
theorem Bag.lose {w0 w w' : World} {ls rs : List Itm} {B : Nat} {v : Value} {l : List UInt8} (h : Bag w0 w (ls ++ LB B v l :: rs)) (hf : Fm.Fr (fun k => v.ownBlock ≠ some k) w w') : Bag w0 w' (ls ++ NI :: rs) :=
  h.change (hf.mono (fun _ _ hq he => hq he)) (NI.ok _ _) (fun _ hq => hq.elim)
theorem EB.fix {w0 w : World} {ls rs : List Itm} {v : Value} {n : Nat} (h : Bag w0 w (ls ++ EB w0.heap.size v n :: rs)) : ∃ l : List UInt8, l.length = n ∧ Bag w0 w (ls ++ LB w0.heap.size v l :: rs) := by
  obtain ⟨l, hl, ho⟩ := (h.ok (EB w0.heap.size v n) (by simp)).a
  exact ⟨l, hl, h.change (Fm.Fr.refl _ _) (LIt.ok ho (Nat.le_refl _)) (fun _ hq => .inl hq)⟩
theorem EH.fix {w0 w : World} {ls rs : List Itm} {v : Value} {n : Nat} (h : Bag w0 w (ls ++ EH w0.heap.size v n :: rs)) : ∃ l : List UInt8, l.length = n * 32 ∧ Bag w0 w (ls ++ LHn w0.heap.size v l :: rs) := by
  obtain ⟨l, hl, ho⟩ := (h.ok (EH w0.heap.size v n) (by simp)).a
  refine ⟨l, hl, h.change (Fm.Fr.refl _ _) (LIt.ok (B' := w0.heap.size) ?_ (Nat.le_refl _)) (fun _ hq => .inl hq)⟩
  rw [hl, Nat.mul_div_cancel _ (by omega)]
  exact ho
theorem two_of {ms : List Mg} (h : ms.length = 2) : ∃ x0 x1, ms = [x0, x1] := by
  match ms, h with
  | [a, b], _ => exact ⟨a, b, rfl⟩
theorem MB.range {w : World} {g : Nat} {m : Mv} (h : MB w g m) : w.rangeAt g 0 m.ls := fun j v hj => by rw [Nat.zero_add]; exact h.cell j hj
end Go.Proofs.YtpembmfpgolniaaDoor
namespace Go.Proofs.YtpembmfpgolniaaDoor
open Go.RowKit
theorem mv_eq {a m x : Mv} (h1 : a = { m with d := a.d, h := a.h }) (h2 : a = { x with d := a.d, h := a.h }) : m = { x with d := m.d, h := m.h } := by
  have h := h1.symm.trans h2
  clear h1 h2
  cases m
  cases x
  simp only [Mv.mk.injEq] at h ⊢
  simp_all
theorem bone (l : List UInt8) : (Lib.byteCells l).toArray.all (·.oneCell') = true := all_oneCell_toArray (fun v hv => by
  obtain ⟨b, _, rfl⟩ := List.mem_map.1 (show v ∈ l.map _ from hv)
  rfl)
theorem u8_of (x : Int) (h0 : 0 ≤ x) (h1 : x < 256) : ((UInt8.ofNat x.toNat).toNat : Int) = x := by
  rw [UInt8.toNat_ofNat']
  omega
theorem hmk_eq (q : Int) (u : World) : (Op.equalIn 10000 24 (.agg (hmk (q % 256) (q / 256 % 256)).toArray) (.agg (hmk (q % 256) (q / 256 % 256)).toArray)).run Tryd.prog u = .ok true u := by
  have e : hmk (q % 256) (q / 256 % 256) = Lib.byteCells (UInt8.ofNat (q % 256).toNat :: UInt8.ofNat (q / 256 % 256).toNat :: 5 :: List.replicate 29 (0 : UInt8)) := by
    have e1 := u8_of (q % 256) (by omega) (by omega)
    have e2 := u8_of (q / 256 % 256) (by omega) (by omega)
    show _ = Value.int .u8 _ :: Value.int .u8 _ :: _
    rw [e1, e2]
    rfl
  rw [e]
  have h := equal_hash u 9998 (UInt8.ofNat (q % 256).toNat :: UInt8.ofNat (q / 256 % 256).toNat :: 5 :: List.replicate 29 (0 : UInt8)) (UInt8.ofNat (q % 256).toNat :: UInt8.ofNat (q / 256 % 256).toNat :: 5 :: List.replicate 29 (0 : UInt8)) rfl rfl
  exact h.trans (by rw [decide_eq_true rfl])
/-- one of the hashes is written over, what is written being one letter -/
theorem EH.putT {w0 w : World} {ls rs : List Itm} {a : Option Addr} {n ca : Nat} (h : Bag w0 w (ls ++ EH w0.heap.size (.slice a n ca) n :: rs)) (i : Nat) (hi : i < n) (u : List UInt8) (hu : u.length = 32) :
    ∃ TT : Array Value, TT = (Lib.byteCells u).toArray ∧ ∃ g, a = some ⟨g, 0, none⟩ ∧ w.there g (i * 32) TT.size ∧ n ≤ ca ∧ (Tryd.prog.info? 24).map (·.size) = some TT.size ∧ TT.all (·.oneCell') = true ∧ Bag w0 (w.setCells g (i * 32) TT.toList) (ls ++ EH w0.heap.size (.slice a n ca) n :: rs) := by
  obtain ⟨g, cs, hga, hh, hsz, hle, hz⟩ := EH.put (ls := ls) (rs := rs) h i hi
  have hul : (Lib.byteCells u).toArray.size = 32 := by simp [Lib.byteCells, hu]
  refine ⟨_, rfl, g, hga, ?_, hle, ?_, bone u, ?_⟩
  · rw [hul]; exact there_row (o := i * 32) (n := 32) hh hsz
  · rw [hul]; exact info_hash
  · exact hz u hu
end Go.Proofs.YtpembmfpgolniaaDoor
