import Derived.Test.YtjgioiljhefcbaaLs
namespace Go.Proofs.Ytjgioiljhefcbaa
open Go.RowKit
/-- an act as it is handed in -/
structure Av where
  sy : Bool
  u : Wv
def Av.cs (x : Av) : List Value := [.bool x.sy, .int .i64 x.u.at_, x.u.dv]
def RAv (w : World) (v : Value) (xs : List Av) : Prop :=
  (∃ a c, v = .slice a xs.length c ∧ xs.length ≤ c ∧ (xs = [] ∨ ∃ g o, a = some ⟨g, o, none⟩ ∧ g < w.heap.size ∧ ∀ i x, xs[i]? = some x → w.cell? ⟨g, o + i * 3, none⟩ = some (.bool x.sy) ∧ w.cell? ⟨g, o + i * 3 + 1, none⟩ = some (.int .i64 x.u.at_) ∧ w.cell? ⟨g, o + i * 3 + 2, none⟩ = some x.u.dv)) ∧ ∀ x ∈ xs, RB w x.u.dv x.u.dl ∧ x.u.dl.length ≤ 140737488351232
theorem RAv.keep {w w' : World} {v : Value} {xs : List Av} (h : RAv w v xs) (hb : Below w.heap.size w w') : RAv w' v xs := by
  obtain ⟨⟨a, c, rfl, hle, h⟩, h2⟩ := h
  refine ⟨⟨a, c, rfl, hle, ?_⟩, fun u hu => ⟨(h2 u hu).1.keep hb, (h2 u hu).2⟩⟩
  rcases h with h | ⟨g, o, h1, h2, h3⟩
  · exact .inl h
  · exact .inr ⟨g, o, h1, Nat.lt_of_lt_of_le h2 hb.size, fun i u hi => ⟨(World.cell?_of_block (w := w) (hb.block g h2)).trans (h3 i u hi).1, (World.cell?_of_block (w := w) (hb.block g h2)).trans (h3 i u hi).2.1, (World.cell?_of_block (w := w) (hb.block g h2)).trans (h3 i u hi).2.2⟩⟩
theorem RAv.pre {w : World} {a : Option Addr} {n c m : Nat} {xs : List Av} (h : RAv w (.slice a n c) xs) (hm : m ≤ xs.length) : RAv w (.slice a m c) (xs.take m) := by
  obtain ⟨⟨a', c', e, hle, h⟩, h2⟩ := h
  simp only [Value.slice.injEq] at e
  obtain ⟨rfl, rfl, rfl⟩ := e
  have hl : (xs.take m).length = m := by rw [List.length_take]; omega
  refine ⟨⟨a, c, by rw [hl], by omega, ?_⟩, fun u hu => h2 u (List.mem_of_mem_take hu)⟩
  rcases h with h | ⟨g, o, h1, h2, h3⟩
  · exact .inl (by rw [h]; simp)
  · refine .inr ⟨g, o, h1, h2, fun i u hi => h3 i u ?_⟩
    have := (List.getElem?_eq_some_iff.1 hi).1
    rw [List.getElem?_take_of_lt (by omega)] at hi
    exact hi
def OAv (B : Nat) (w : World) (v : Value) (xs : List Av) : Prop := w.ownsRow B 56 3 v xs.length (xs.flatMap Av.cs)
theorem OAv.at {B : Nat} {w : World} {g c n : Nat} {us : List Av} (h : OAv B w (.slice (some ⟨g, 0, none⟩) n c) us) (i : Nat) (u : Av) (hu : us[i]? = some u) : w.cell? ⟨g, i * 3, none⟩ = some (.bool u.sy) ∧ w.cell? ⟨g, i * 3 + 1, none⟩ = some (.int .i64 u.u.at_) ∧ w.cell? ⟨g, i * 3 + 2, none⟩ = some u.u.dv := by
  rcases h.2 with ⟨e, _⟩ | ⟨g', c', cur, e, _, h2, h3, h4, h5, h6⟩
  · cases e
  simp only [Value.slice.injEq, Option.some.injEq, Addr.mk.injEq] at e
  obtain ⟨⟨rfl, _⟩, _, rfl⟩ := e
  obtain ⟨hi, hu'⟩ := List.getElem?_eq_some_iff.1 hu
  have h0 := flat_at Av.cs 3 us i 0 (fun _ _ => rfl) hi (by omega)
  have h1 := flat_at Av.cs 3 us i 1 (fun _ _ => rfl) hi (by omega)
  have h7 := flat_at Av.cs 3 us i 2 (fun _ _ => rfl) hi (by omega)
  rw [hu'] at h0 h1 h7
  have hlt : i * 3 + 2 < us.length * 3 := by omega
  rw [← h6, List.getElem?_take_of_lt (by omega)] at h0 h1 h7
  simp only [Nat.add_zero] at h0
  simp only [World.cell?, h2]
  exact ⟨by simpa [Av.cs] using h0, by simpa [Av.cs] using h1, by simpa [Av.cs] using h7⟩
theorem OAv.rw {B : Nat} {w : World} {v : Value} {us : List Av} (h : OAv B w v us) (hd : ∀ u ∈ us, RB w u.u.dv u.u.dl ∧ u.u.dl.length ≤ 140737488351232) : RAv w v us := by
  refine ⟨?_, hd⟩
  have h' := h
  rcases h.2 with ⟨rfl, h0⟩ | ⟨g, cap, cur, rfl, _, hg, hle, _⟩
  · have : us = [] := List.length_eq_zero_iff.1 h0
    subst this; exact ⟨none, 0, rfl, Nat.le_refl _, .inl rfl⟩
  · exact ⟨_, cap, rfl, hle, .inr ⟨g, 0, rfl, (Array.getElem?_eq_some_iff.1 hg).1, fun i u hu => by rw [Nat.zero_add]; exact h'.at i u hu⟩⟩
theorem infoAct : (Try.prog.info? 56).map (fun i => (i.zero, i.size, i.bytes)) = some (some (.agg #[.bool false, .int .i64 0, .slice none 0 0]), 3, 40) := by kernel_rfl
theorem append_act {ops : Array Oper} {rest : List Oper} {o : Oper} {a : Act} {Q : Exit → Act → World → Prop} {w : World} {B : Nat} {sv : Value} {l : List Av} (hgd : o.guard = none) (s x : Operand)
    (ho : o.op = .call { callee := .builtin .append, args := #[s, x], argTypes := #[54, 54] }) (hs : a.eval s = sv) (hown : OAv B w sv l) (b : Nat) (u : Av) (hx : a.eval x = .slice (some ⟨b, 0, none⟩) 1 1)
    (hc : w.heap[b]? = some (.cells #[.bool u.sy, .int .i64 u.u.at_, u.u.dv] 56 (0, 0))) (hu : u.u.dv.oneCell' = true) (hB : B ≤ w.heap.size) (hlim : l.length < 1073741824)
    (h : ∀ v' w', OAv B w' v' (l ++ [u]) → Below B w w' → wpList Try.prog ops Q rest (a.put o.dst v') w') : wpList Try.prog ops Q (o :: rest) a w := by
  obtain ⟨i0, hi, hz0, hz1, hz2⟩ := info_parts infoAct
  refine wpList_append_own w hgd s x 54 ho B 56 i0 _ 3 40 Try.underlying54 hi hz0 hz1 hz2 rfl (by omega) sv l.length (l.flatMap Av.cs) hs hown ⟨b, 0, none⟩ 1 1 u.cs hx rfl (fun j y hy => ?_) (fun y hy => ?_) (by unfold maxLen; omega) (by omega) hB (fun v' w' h1 h2 _ => ?_)
  · have hadd : (⟨b, 0, none⟩ : Addr).add j = ⟨b, j, none⟩ := by unfold Addr.add; split <;> simp_all
    rw [hadd]
    simp only [World.cell?, hc]
    simpa [Av.cs] using hy
  · simp [Av.cs] at hy
    rcases hy with rfl | rfl | rfl
    · rfl
    · rfl
    · exact hu
  · refine h v' w' ?_ ((Below.refl B w).grown h2 hB (fun k hk => (World.ownsRow.lt hown k hk).1))
    unfold OAv
    simpa using h1
/-- one act upon a disk -/
def act1 (D : Dk) (x : Av) : Dk := if x.sy then (if blownF D.fu then D else ⟨img D.last D.ws, [], burnt D.fu⟩) else ⟨D.last, D.ws ++ [⟨x.u.at_.toNat, fl x.u.dl, blownF D.fu⟩], burnt D.fu⟩
def acts (D : Dk) (xs : List Av) : Dk := xs.foldl act1 D
theorem acts_snoc (D : Dk) (xs : List Av) (x : Av) : acts D (xs ++ [x]) = act1 (acts D xs) x := by simp [acts]
/-- an act whose sector the disk has -/
def Fits (n : Nat) (x : Av) : Prop := x.sy = true ∨ 0 ≤ x.u.at_ ∧ 64 * x.u.at_ + 64 ≤ (n : Int)
theorem act1_len (D : Dk) (x : Av) : (act1 D x).last.length = D.last.length := by
  unfold act1
  split
  · split
    · rfl
    · exact img_len _ _
  · rfl
theorem acts_len : ∀ (xs : List Av) (D : Dk), (acts D xs).last.length = D.last.length
  | [], _ => rfl
  | x :: xs, D => (acts_len xs (act1 D x)).trans (act1_len D x)
theorem acts_ws : ∀ (xs : List Av) (D : Dk), (acts D xs).ws.length ≤ D.ws.length + xs.length
  | [], _ => by simp [acts]
  | x :: xs, D => by
    have h := acts_ws xs (act1 D x)
    have h2 : (act1 D x).ws.length ≤ D.ws.length + 1 := by
      unfold act1
      split
      · split <;> simp
      · simp
    show (acts (act1 D x) xs).ws.length ≤ _
    simp only [List.length_cons]
    omega
/-- what is seen is the same with a fuse and without -/
theorem act1_img {A C : Dk} {x : Av} (h : img A.last A.ws = img C.last C.ws) (hl : A.last.length = C.last.length) (hx : Fits A.last.length x) : img (act1 A x).last (act1 A x).ws = img (act1 C x).last (act1 C x).ws := by
  have hs : ∀ D : Dk, x.sy = true → img (act1 D x).last (act1 D x).ws = img D.last D.ws := fun D hs => by
    unfold act1
    rw [if_pos hs]
    split
    · rfl
    · show img (img D.last D.ws) [] = _
      rw [img_nil]
  by_cases hy : x.sy = true
  · rw [hs A hy, hs C hy, h]
  · rcases hx with hx | ⟨h1, h2⟩
    · exact absurd hx hy
    have hw : ∀ D : Dk, D.last.length = A.last.length → img (act1 D x).last (act1 D x).ws = sp (img D.last D.ws) (64 * x.u.at_.toNat) (fl x.u.dl) := fun D hD => by
      unfold act1
      rw [if_neg hy]
      exact img_snoc _ _ _ (fl_len _) (by show 64 * x.u.at_.toNat + 64 ≤ D.last.length; omega)
    rw [hw A rfl, hw C hl.symm, h]
theorem acts_img : ∀ (xs : List Av) (A C : Dk), img A.last A.ws = img C.last C.ws → A.last.length = C.last.length → (∀ x ∈ xs, Fits A.last.length x) → img (acts A xs).last (acts A xs).ws = img (acts C xs).last (acts C xs).ws
  | [], _, _, h, _, _ => h
  | x :: xs, A, C, h, hl, hx => acts_img xs (act1 A x) (act1 C x) (act1_img h hl (hx x (List.mem_cons_self ..))) (by rw [act1_len, act1_len, hl]) (fun y hy => by rw [act1_len]; exact hx y (List.mem_cons_of_mem _ hy))
/-- behind the fuse's end all is dead -/
theorem acts_fuse : ∀ (xs : List Av) (m : Nat) (last : List UInt8) (ws : List Wt), ∃ dd, (acts ⟨last, ws, some m⟩ xs).last = (acts ⟨last, ws, none⟩ (xs.take m)).last ∧ (acts ⟨last, ws, some m⟩ xs).ws = (acts ⟨last, ws, none⟩ (xs.take m)).ws ++ dd ∧ ∀ x ∈ dd, x.dead = true
  | [], m, last, ws => ⟨[], by simp [acts], by simp [acts], by simp⟩
  | x :: xs, 0, last, ws => by
    by_cases hy : x.sy = true
    · have h := acts_fuse xs 0 last ws
      have e : acts ⟨last, ws, some 0⟩ (x :: xs) = acts ⟨last, ws, some 0⟩ xs := by
        show acts (act1 _ x) xs = _
        unfold act1
        rw [if_pos hy]
        rfl
      rw [e]
      exact h
    · obtain ⟨dd, h1, h2, h3⟩ := acts_fuse xs 0 last (ws ++ [⟨x.u.at_.toNat, fl x.u.dl, true⟩])
      have e : acts ⟨last, ws, some 0⟩ (x :: xs) = acts ⟨last, ws ++ [⟨x.u.at_.toNat, fl x.u.dl, true⟩], some 0⟩ xs := by
        show acts (act1 _ x) xs = _
        unfold act1
        rw [if_neg hy]
        rfl
      rw [e]
      refine ⟨⟨x.u.at_.toNat, fl x.u.dl, true⟩ :: dd, h1, ?_, fun y hy => ?_⟩
      · rw [h2]
        simp [acts]
      · rcases List.mem_cons.1 hy with rfl | hy
        · rfl
        · exact h3 y hy
  | x :: xs, m + 1, last, ws => by
    have e : ∃ l' w', act1 ⟨last, ws, some (m + 1)⟩ x = ⟨l', w', some m⟩ ∧ act1 ⟨last, ws, none⟩ x = ⟨l', w', none⟩ := by
      unfold act1
      by_cases hy : x.sy = true
      · rw [if_pos hy, if_pos hy]
        exact ⟨_, _, rfl, rfl⟩
      · rw [if_neg hy, if_neg hy]
        exact ⟨_, _, rfl, rfl⟩
    obtain ⟨l', w', e1, e2⟩ := e
    have h := acts_fuse xs m l' w'
    rw [List.take_succ_cons]
    show ∃ dd, (acts (act1 _ x) xs).last = (acts (act1 _ x) (xs.take m)).last ∧ _
    show ∃ dd, (acts (act1 _ x) xs).last = (acts (act1 _ x) (xs.take m)).last ∧ (acts (act1 _ x) xs).ws = (acts (act1 _ x) (xs.take m)).ws ++ dd ∧ _
    rw [e1, e2]
    exact h
theorem lv_dead (s : Nat) : ∀ (dd : List Wt) (k : Nat), (∀ x ∈ dd, x.dead = true) → lv s k dd = []
  | [], _, _ => rfl
  | x :: dd, k, h => by
    have hx := h x (List.mem_cons_self ..)
    simp [lv, hx, lv_dead s dd (k + 1) (fun y hy => h y (List.mem_cons_of_mem _ hy))]
theorem lv_app (s : Nat) (dd : List Wt) : ∀ (ws : List Wt) (k : Nat), (∀ x ∈ dd, x.dead = true) → lv s k (ws ++ dd) = lv s k ws
  | [], k, h => by simpa [lv] using lv_dead s dd k h
  | x :: ws, k, h => by simp [lv, lv_app s dd ws (k + 1) h]
theorem foldl_same {α β : Type} {f g : α → β → α} : ∀ (xs : List β) (a : α), (∀ x ∈ xs, ∀ a, f a x = g a x) → xs.foldl f a = xs.foldl g a
  | [], _, _ => rfl
  | x :: xs, a, h => by
    simp only [List.foldl_cons]
    rw [h x (List.mem_cons_self ..) a]
    exact foldl_same xs _ (fun y hy => h y (List.mem_cons_of_mem _ hy))
/-- a crash sees nothing of what is behind the fuse's end -/
theorem crash_fuse (keep : List Bool) (torn tear cut : Int) (last : List UInt8) (ws dd : List Wt) (p q : Nat) (hq : ws.length = q) (hp : q ≤ p) (hd : ∀ x ∈ dd, x.dead = true) (ht : tear = if (q : Int) ≤ torn then -1 else torn) :
    crD (kp keep p) torn (if torn = -1 then 0 else cut.toNat) last (ws ++ dd) = crD (kp keep q) tear (if tear = -1 then 0 else cut.toNat) last ws := by
  rw [crD_eq, crD_eq]
  apply lf_congr
  intro i _
  unfold crB
  rw [lv_app _ _ _ _ hd]
  congr 1
  unfold crS
  refine foldl_same _ _ (fun x hx c => ?_)
  obtain ⟨j, y, h1, h2, _⟩ := lv_mem hx
  have hj := (List.getElem?_eq_some_iff.1 h2).1
  have hxq : x.1 < q := by omega
  unfold crX
  rw [kp_at _ _ _ (by omega), kp_at _ _ _ hxq]
  by_cases h : (x.1 : Int) = torn
  · have e : tear = torn := by rw [ht, if_neg (by omega)]
    rw [e]
  · have e : ¬ (x.1 : Int) = tear := by
      rw [ht]
      split <;> omega
    rw [if_neg h, if_neg e]
/-- the first sector behind a write to it -/
theorem first_sec (im : List UInt8) (d : List UInt8) (b : Bool) (hd : d.length = 64) (hi : 64 ≤ im.length) : (img im [⟨0, d, b⟩]).take 64 = d := by
  refine byt_ext ?_ (fun i hi' => ?_)
  · rw [List.length_take, img_len, hd]; omega
  · have h64 : i < 64 := by rw [List.length_take] at hi'; omega
    have e : byt ((img im [⟨0, d, b⟩]).take 64) i = byt (img im [⟨0, d, b⟩]) i := by
      unfold byt
      simp [List.getD, List.getElem?_take_of_lt h64]
    rw [e]
    unfold img
    rw [lf_byt _ _ _ (by omega)]
    unfold imB
    rw [show i / 64 = 0 by omega, show i % 64 = i by omega]
    simp [nw]
end Go.Proofs.Ytjgioiljhefcbaa
