import Derived.Test.YtglknmelcianjaaRe
namespace Go.Proofs.Ytglknmelcianjaa
open Go.RowKit
set_option maxHeartbeats 1000000 in
theorem blown_no (k : Int) (w : World) : Calls Try.prog 42 #[.agg #[.bool false, .int .i64 k]] w fun e w' => e = .returned (.bool false) ∧ Below w.heap.size w w' := by
  go_enter Try.func42, Try.ntmps42
  go_wp2
  go_ret
  exact ⟨rfl, (Below.refl _ _).alloc (Nat.le_refl _) _⟩
set_option maxHeartbeats 1000000 in
theorem blown_yes (k : Nat) (w : World) : Calls Try.prog 42 #[.agg #[.bool true, .int .i64 k]] w fun e w' => e = .returned (.bool (decide (k = 0))) ∧ Below w.heap.size w w' := by
  by_cases h : k = 0
  · subst h
    go_enter Try.func42, Try.ntmps42
    go_wp2
    go_ret
    exact ⟨rfl, (Below.refl _ _).alloc (Nat.le_refl _) _⟩
  · have hk : ((k : Int) == 0) = false := by simp; omega
    go_enter Try.func42, Try.ntmps42
    go_wp2
    go_ret
    exact ⟨by simp [h], (Below.refl _ _).alloc (Nat.le_refl _) _⟩
theorem blown (f : Option Nat) (w : World) : Calls Try.prog 42 #[.agg #[.bool f.isSome, .int .i64 (f.getD 0)]] w fun e w' => e = .returned (.bool (blownF f)) ∧ Below w.heap.size w w' := by
  cases f with
  | none => exact blown_no 0 w
  | some k =>
    have := blown_yes k w
    have e : blownF (some k) = decide (k = 0) := by cases k <;> simp [blownF]
    rw [e]
    exact this
set_option maxHeartbeats 1000000 in
theorem burn (f : Option Nat) (p : Nat) (w : World) (hc : w.cell? ⟨p, 4, none⟩ = some (.int .i64 (f.getD 0))) (hf : w.frozen? ⟨p, 4, none⟩ = false) (hk : ∀ k, f = some k → k ≤ 9223372036854775807) :
    Calls Try.prog 43 #[.pointer (some ⟨p, 3, none⟩)] w fun e w' => e = .returned (.tuple #[]) ∧ (w' = w ∧ burnt f = f ∨ w' = w.setCell ⟨p, 4, none⟩ (.int .i64 ((burnt f).getD 0))) := by
  by_cases h : ∃ k, f = some (k + 1)
  · obtain ⟨k, rfl⟩ := h
    have hk := hk _ rfl
    have hc' : w.cell? ⟨p, 4, none⟩ = some (.int .i64 ((k : Int) + 1)) := by rw [hc]; rfl
    have hw : IntKind.i64.wrap ((k : Int) + 1 - 1) = (k : Int) := by
      rw [show (k : Int) + 1 - 1 = (k : Int) by omega]
      simp [IntKind.wrap, IntKind.signed, IntKind.bits]
      omega
    clear hc
    go_enter Try.func43, Try.ntmps43
    go_wp2
    go_end0
    exact ⟨rfl, .inr rfl⟩
  · have h0 : f.getD 0 = 0 := by
      cases f with
      | none => rfl
      | some k => cases k with
        | zero => rfl
        | succ k => exact absurd ⟨k, rfl⟩ h
    have hb : burnt f = f := by
      cases f with
      | none => rfl
      | some k => cases k with
        | zero => rfl
        | succ k => exact absurd ⟨k, rfl⟩ h
    rw [h0] at hc
    have HB : Hid (burnt f = f) := hb
    clear h h0 hb hk
    have hc' : w.cell? ⟨p, 4, none⟩ = some (.int .i64 0) := hc
    go_enter Try.func43, Try.ntmps43
    go_wp2
    go_end0
    exact ⟨rfl, .inl ⟨rfl, HB.out⟩⟩
/-- a disk's parts in memory, whatever they say -/
structure DP (S : Nat → Prop) (w : World) (p lb cap mb nm : Nat) (op ov : Value) (M : DataW Value) (L : Nat → Value) (F : Nat → List (Nat × List UInt8)) (last : List UInt8) (ats : List Nat) (fu : Option Nat) : Prop where
  blk : w.heap[p]? = some (.cells #[.slice (some ⟨lb, 0, none⟩) last.length cap, .map (some mb), op, .bool fu.isSome, .int .i64 (fu.getD 0)] 55 (0, 0))
  las : OW 0 w (.slice (some ⟨lb, 0, none⟩) last.length cap) last
  map : w.ownsMap Try.prog 3 idR mb nm M
  ord : w.ownsRow 0 3 1 ov ats.length (ats.map fun x : Nat => Value.int .i64 (x : Int))
  liv : ∀ s, OL w (L s) (F s)
  dis : ∀ s t g, s ≠ t → (L s).ownBlock = some g → (L t).ownBlock ≠ some g
  sp : S p
  sl : S lb
  sm : S mb
  so : ∀ g, ov.ownBlock = some g → S g
  sv : ∀ s g, (L s).ownBlock = some g → S g
section
variable {S T : Nat → Prop} {w w' : World} {p lb cap mb nm : Nat} {op ov : Value} {M : DataW Value} {L : Nat → Value} {F : Nat → List (Nat × List UInt8)} {last : List UInt8} {ats : List Nat} {fu : Option Nat} {D : Dk}
theorem DI.dp (h : DI S w p lb cap mb ov M L D) : DP S w p lb cap mb D.ws.length ov ov M L (fun s => lv s 0 D.ws) D.last (D.ws.map (·.at_)) D.fu :=
  ⟨h.blk, h.las, h.map, by rw [List.length_map, List.map_map]; exact h.ord, h.liv, h.dis, h.sp, h.sl, h.sm, h.so, h.sv⟩
theorem DP.fr (h : DP S w p lb cap mb nm op ov M L F last ats fu) (hf : Fr S w w') : DP S w' p lb cap mb nm op ov M L F last ats fu :=
  { h with
    blk := (hf.block p (Array.getElem?_eq_some_iff.1 h.blk).1 h.sp).trans h.blk
    las := ownsRow_fr h.las hf (fun g hg => by simp [Value.ownBlock] at hg; subst hg; exact h.sl)
    map := ownsMap_fr h.map hf h.sm
    ord := ownsRow_fr h.ord hf h.so
    liv := fun s => ownsRow_fr (h.liv s) hf (h.sv s) }
theorem DP.sub (h : DP S w p lb cap mb nm op ov M L F last ats fu) (hs : ∀ k, k < w.heap.size → S k → T k) : DP T w p lb cap mb nm op ov M L F last ats fu :=
  { h with
    sp := hs _ (Array.getElem?_eq_some_iff.1 h.blk).1 h.sp
    sl := hs _ (ownsRow_lt h.las lb rfl).1 h.sl
    sm := hs _ h.map.lt h.sm
    so := fun g hg => hs _ (ownsRow_lt h.ord g hg).1 (h.so g hg)
    sv := fun s g hg => hs _ (ownsRow_lt (h.liv s) g hg).1 (h.sv s g hg) }
theorem DP.lasB (h : DP S w p lb cap mb nm op ov M L F last ats fu) : ∃ cs, w.heap[lb]? = some (.cells cs 5 (0, 0)) := (ownsRow_lt h.las lb rfl).2
theorem DP.mapB (h : DP S w p lb cap mb nm op ov M L F last ats fu) : ∃ es c, w.heap[mb]? = some (.map es c) := by
  obtain ⟨es, c, h1, _⟩ := h.map
  exact ⟨es, c, h1⟩
/-- one more write that is not dead -/
theorem DP.live (h : DP S w p lb cap mb nm op ov M L F last ats fu) (s : Nat) (v : Value) (x : Nat × List UInt8) (h1 : OL w' v (F s ++ [x])) (hg : w.grownBy w' (L s).ownBlock) (hb : v.ownBlock = (L s).ownBlock ∨ v.ownBlock = some w.heap.size) :
    DP (fun k => S k ∨ w.heap.size ≤ k) w' p lb cap mb nm op ov M (fun t => if t = s then v else L t) (fun t => if t = s then F s ++ [x] else F t) last ats fu := by
  have hL := ownsRow_lt (h.liv s)
  have hk : ∀ k, k < w.heap.size → (∀ cs, w.heap[k]? ≠ some (.cells cs 62 (0, 0))) → w'.heap[k]? = w.heap[k]? := fun k hk hn => hg.block k hk (fun e => by
    obtain ⟨_, cs, hc⟩ := hL k e.symm
    exact hn cs hc)
  have hrow : ∀ {B e size n : Nat} {u : Value} {xs : List Value}, e ≠ 62 → w.ownsRow B e size u n xs → w'.ownsRow B e size u n xs := fun {B e size n u xs} he hu => by
    refine ⟨hu.1, ?_⟩
    rcases hu.2 with h1 | ⟨g, cap, cur, h1, h2, h3, h4⟩
    · exact .inl h1
    · refine .inr ⟨g, cap, cur, h1, h2, (hk g (Array.getElem?_eq_some_iff.1 h3).1 (fun cs hc => ?_)).trans h3, h4⟩
      rw [h3] at hc
      simp at hc
      exact he hc.2
  have hv : ∀ g, v.ownBlock = some g → S g ∨ w.heap.size ≤ g := fun g hg' => by
    rcases hb with e | e
    · rw [e] at hg'; exact .inl (h.sv s g hg')
    · rw [e] at hg'; simp at hg'; exact .inr (by omega)
  refine ⟨?_, hrow (by decide) h.las, ?_, hrow (by decide) h.ord, ?_, ?_, .inl h.sp, .inl h.sl, .inl h.sm, fun g hg => .inl (h.so g hg), ?_⟩
  · exact (hk p (Array.getElem?_eq_some_iff.1 h.blk).1 (fun cs hc => by rw [h.blk] at hc; simp at hc)).trans h.blk
  · obtain ⟨es, c, h1, h2⟩ := h.map
    exact ⟨es, c, (hk mb (Array.getElem?_eq_some_iff.1 h1).1 (fun cs hc => by rw [h1] at hc; simp at hc)).trans h1, h2⟩
  · intro t
    by_cases ht : t = s
    · simp only [ht, if_pos]; exact h1
    · simp only [if_neg ht]
      have hu := h.liv t
      refine ⟨hu.1, ?_⟩
      rcases hu.2 with h1 | ⟨g, cap, cur, h1, h2, h3, h4⟩
      · exact .inl h1
      · refine .inr ⟨g, cap, cur, h1, h2, (hg.block g (Array.getElem?_eq_some_iff.1 h3).1 (fun e => ?_)).trans h3, h4⟩
        exact h.dis t s g ht (by rw [h1]; rfl) e.symm
  · intro a b g hab
    by_cases ha : a = s
    · have hb' : b ≠ s := fun e => hab (ha.trans e.symm)
      simp only [ha, if_pos, if_neg hb']
      intro hga hgb
      rcases hb with e | e
      · rw [e] at hga; exact h.dis s b g (fun e => hb' e.symm) hga hgb
      · rw [e] at hga; simp at hga
        have := (ownsRow_lt (h.liv b) g hgb).1
        omega
    · simp only [if_neg ha]
      intro hga
      by_cases hb' : b = s
      · simp only [hb', if_pos]
        intro hgb
        rcases hb with e | e
        · rw [e] at hgb; exact h.dis a s g ha hga hgb
        · rw [e] at hgb; simp at hgb
          have := (ownsRow_lt (h.liv a) g hga).1
          omega
      · simp only [if_neg hb']
        exact h.dis a b g hab hga
  · intro t g
    by_cases ht : t = s
    · simp only [ht, if_pos]; exact hv g
    · simp only [if_neg ht]; exact fun hg => .inl (h.sv t g hg)
/-- the map is written -/
theorem DP.put {M' : DataW Value} {nm' : Nat} (h : DP S w p lb cap mb nm op ov M L F last ats fu) (hm : w'.ownsMap Try.prog 3 idR mb nm' M') (hg : w.grownBy w' (some mb)) : DP S w' p lb cap mb nm' op ov M' L F last ats fu := by
  obtain ⟨es, c, hmb⟩ := h.mapB
  have hk : ∀ k, k < w.heap.size → (∃ cs t f, w.heap[k]? = some (.cells cs t f)) → w'.heap[k]? = w.heap[k]? := fun k hk hc => hg.block k hk (fun e => by
    injection e with e
    obtain ⟨cs, t, f, hc⟩ := hc
    rw [e, hmb] at hc
    simp at hc)
  have hrow : ∀ {B e size n : Nat} {u : Value} {xs : List Value}, w.ownsRow B e size u n xs → w'.ownsRow B e size u n xs := fun {B e size n u xs} hu => by
    refine ⟨hu.1, ?_⟩
    rcases hu.2 with h1 | ⟨g, cap, cur, h1, h2, h3, h4⟩
    · exact .inl h1
    · exact .inr ⟨g, cap, cur, h1, h2, (hk g (Array.getElem?_eq_some_iff.1 h3).1 ⟨_, _, _, h3⟩).trans h3, h4⟩
  exact { h with
    blk := (hk p (Array.getElem?_eq_some_iff.1 h.blk).1 ⟨_, _, _, h.blk⟩).trans h.blk
    las := hrow h.las
    map := hm
    ord := hrow h.ord
    liv := fun s => hrow (h.liv s) }
/-- the order goes on -/
theorem DP.goes {ats' : List Nat} (h : DP S w p lb cap mb nm op ov M L F last ats fu) (v : Value) (h1 : w'.ownsRow 0 3 1 v ats'.length (ats'.map fun x : Nat => Value.int .i64 (x : Int))) (hg : w.grownBy w' ov.ownBlock) (hb : v.ownBlock = ov.ownBlock ∨ v.ownBlock = some w.heap.size) :
    DP (fun k => S k ∨ w.heap.size ≤ k) w' p lb cap mb nm op v M L F last ats' fu := by
  have hL := ownsRow_lt h.ord
  have hk : ∀ k, k < w.heap.size → (∀ cs, w.heap[k]? ≠ some (.cells cs 3 (0, 0))) → w'.heap[k]? = w.heap[k]? := fun k hk hn => hg.block k hk (fun e => by
    obtain ⟨_, cs, hc⟩ := hL k e.symm
    exact hn cs hc)
  have hrow : ∀ {B e size n : Nat} {u : Value} {xs : List Value}, e ≠ 3 → w.ownsRow B e size u n xs → w'.ownsRow B e size u n xs := fun {B e size n u xs} he hu => by
    refine ⟨hu.1, ?_⟩
    rcases hu.2 with h1 | ⟨g, cap, cur, h1, h2, h3, h4⟩
    · exact .inl h1
    · refine .inr ⟨g, cap, cur, h1, h2, (hk g (Array.getElem?_eq_some_iff.1 h3).1 (fun cs hc => ?_)).trans h3, h4⟩
      rw [h3] at hc
      simp at hc
      exact he hc.2
  refine ⟨?_, hrow (by decide) h.las, ?_, h1, fun s => hrow (by decide) (h.liv s), h.dis, .inl h.sp, .inl h.sl, .inl h.sm, fun g hg => ?_, fun s g hg => .inl (h.sv s g hg)⟩
  · exact (hk p (Array.getElem?_eq_some_iff.1 h.blk).1 (fun cs hc => by rw [h.blk] at hc; simp at hc)).trans h.blk
  · obtain ⟨es, c, h1, h2⟩ := h.map
    exact ⟨es, c, (hk mb (Array.getElem?_eq_some_iff.1 h1).1 (fun cs hc => by rw [h1] at hc; simp at hc)).trans h1, h2⟩
  · rcases hb with e | e
    · rw [e] at hg; exact .inl (h.so g hg)
    · rw [e] at hg; simp at hg; exact .inr (by omega)
/-- the disk's own block is written -/
theorem DP.own {last' : List UInt8} {cap' : Nat} {op' : Value} {fu' : Option Nat} (h : DP S w p lb cap mb nm op ov M L F last ats fu) (hl : last' = last) (hc : cap' = cap)
    (hp : w'.heap[p]? = some (.cells #[.slice (some ⟨lb, 0, none⟩) last'.length cap', .map (some mb), op', .bool fu'.isSome, .int .i64 (fu'.getD 0)] 55 (0, 0))) (hf : Fr (fun k => k ≠ p) w w') : DP S w' p lb cap mb nm op' ov M L F last ats fu' := by
  subst hl hc
  have hrow : ∀ {B e size n : Nat} {u : Value} {xs : List Value}, e ≠ 55 → w.ownsRow B e size u n xs → w'.ownsRow B e size u n xs := fun {B e size n u xs} he hu =>
    ownsRow_fr hu hf (fun g hg e' => by
      subst e'
      obtain ⟨_, cs, hc⟩ := ownsRow_lt hu _ hg
      rw [h.blk] at hc
      simp at hc
      exact he hc.2.symm)
  exact { h with
    blk := hp
    las := hrow (by decide) h.las
    map := ownsMap_fr h.map hf (fun e => by
      obtain ⟨es, c, hc⟩ := h.mapB
      rw [e, h.blk] at hc
      simp at hc)
    ord := hrow (by decide) h.ord
    liv := fun s => hrow (by decide) (h.liv s) }
theorem DP.c1 (h : DP S w p lb cap mb nm op ov M L F last ats fu) : w.cell? ⟨p, 1, none⟩ = some (.map (some mb)) := by simp [World.cell?, h.blk]
theorem DP.c2 (h : DP S w p lb cap mb nm op ov M L F last ats fu) : w.cell? ⟨p, 2, none⟩ = some op := by simp [World.cell?, h.blk]
theorem DP.c4 (h : DP S w p lb cap mb nm op ov M L F last ats fu) : w.cell? ⟨p, 4, none⟩ = some (.int .i64 (fu.getD 0)) := by simp [World.cell?, h.blk]
theorem DP.frz (h : DP S w p lb cap mb nm op ov M L F last ats fu) (i : Nat) : w.frozen? ⟨p, i, none⟩ = false := by simp [World.frozen?, h.blk]
theorem setCell_fr (w : World) (p i : Nat) (v : Value) : Fr (fun k => k ≠ p) w (w.setCell ⟨p, i, none⟩ v) := (Fr.refl _ w).setCell p i v (fun _ h => h rfl)
theorem DP.set2 (h : DP S w p lb cap mb nm op ov M L F last ats fu) : DP S (w.setCell ⟨p, 2, none⟩ ov) p lb cap mb nm ov ov M L F last ats fu := by
  refine h.own rfl rfl ?_ (setCell_fr _ _ _ _)
  rw [setCell_eq_setRow w p _ _ _ _ _ h.blk]
  exact heapSetRow _ _ _ _ _ h.blk
theorem DP.set4 {fu' : Option Nat} (h : DP S w p lb cap mb nm op ov M L F last ats fu) (hs : fu'.isSome = fu.isSome) : DP S (w.setCell ⟨p, 4, none⟩ (.int .i64 (fu'.getD 0))) p lb cap mb nm op ov M L F last ats fu' := by
  refine h.own rfl rfl ?_ (setCell_fr _ _ _ _)
  rw [setCell_eq_setRow w p _ _ _ _ _ h.blk, hs]
  exact heapSetRow _ _ _ _ _ h.blk
end
end Go.Proofs.Ytglknmelcianjaa
