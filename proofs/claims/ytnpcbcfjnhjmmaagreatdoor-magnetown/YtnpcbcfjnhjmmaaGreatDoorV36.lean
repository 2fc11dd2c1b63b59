import Derived.Test.YtnpcbcfjnhjmmaaGreatDoorV33
namespace Go.Proofs.YtnpcbcfjnhjmmaaGreatDoor
open Go.Shelf Go.RowKit Go.Deep
theorem esc_nil : esc [] = [] := rfl
theorem esc_cons (x : UInt8) (l : List UInt8) : esc (x :: l) = sg x ++ esc l := rfl
theorem esc_bare (l : List UInt8) (h : ∀ x ∈ l, isB x = true) : esc l = l := by
  induction l with
  | nil => rfl
  | cons x l ih =>
    rw [esc_cons, ih fun y hy => h y (by simp [hy]), sg, if_pos (h x (by simp))]
    rfl
theorem bare_dig (n : Fin 10) : isB (UInt8.ofNat (48 + n.val)) = true := by revert n; decide +kernel
theorem dec_bare (u : Nat) : ∀ x ∈ Lib.decDigits u, isB x = true := by
  induction u using Nat.strongRecOn with
  | _ u ih =>
    intro x hx
    rw [Lib.decDigits] at hx
    split at hx
    · rename_i h
      obtain rfl : x = UInt8.ofNat (48 + u) := by simpa using hx
      exact bare_dig ⟨u, h⟩
    · rcases List.mem_append.1 hx with h | h
      · exact ih (u / 10) (by omega) x h
      · obtain rfl : x = UInt8.ofNat (48 + u % 10) := by simpa using h
        exact bare_dig ⟨u % 10, by omega⟩
theorem itoa_bare (n : Int) (h : 0 ≤ n) : ∀ x ∈ Lib.itoa n, isB x = true := by
  unfold Lib.itoa
  rw [if_neg (by omega)]
  exact dec_bare _
theorem rnT_bare (y : Int × Int) (hy : RnOk y) : ∀ x ∈ rnT y, isB x = true := by
  obtain ⟨⟨h1, _⟩, h2, _⟩ := hy
  intro x hx
  unfold rnT at hx
  split at hx
  · exact itoa_bare _ h1 x hx
  · simp only [List.mem_append, List.mem_singleton] at hx
    rcases hx with (h | rfl) | h
    · exact itoa_bare _ h1 x h
    · decide
    · exact itoa_bare _ (by omega) x h
theorem join_mem {xs : List (List UInt8)} {s : List UInt8} {x : UInt8} (h : x ∈ Lib.join xs s) : x ∈ s ∨ ∃ y ∈ xs, x ∈ y := by
  cases xs with
  | nil => simp [Lib.join_nil] at h
  | cons a t =>
    rw [Lib.join_cons, List.mem_append] at h
    rcases h with h | h
    · exact .inr ⟨a, by simp, h⟩
    · unfold Lib.joinTail at h
      rw [List.mem_flatten] at h
      obtain ⟨l, hl, hx⟩ := h
      obtain ⟨y, hy, rfl⟩ := List.mem_map.1 hl
      rcases List.mem_append.1 hx with h | h
      · exact .inl h
      · exact .inr ⟨y, by simp [hy], h⟩
theorem rsT_bare (rs : List (Int × Int)) (h : ∀ x ∈ rs, RnOk x) : ∀ x ∈ rsT rs, isB x = true := by
  intro x hx
  rcases join_mem hx with h1 | ⟨y, hy, h1⟩
  · obtain rfl : x = 44 := by simpa using h1
    decide
  · obtain ⟨z, hz, rfl⟩ := List.mem_map.1 hy
    exact rnT_bare z (h z hz) x h1
theorem hx_bare0 : ∀ n : Fin 16, isB (UInt8.ofNat (Hx2.dgI (n.val : Int)).toNat) = true := by decide +kernel
theorem hx_bare (l : List UInt8) : ∀ x ∈ (hxL l).map fun z => UInt8.ofNat z.toNat, isB x = true := by
  intro x hx
  obtain ⟨z, hz, rfl⟩ := List.mem_map.1 hx
  unfold hxL Hx2.hexI at hz
  obtain ⟨y, hy, hz⟩ := List.mem_flatMap.1 hz
  obtain ⟨b, _, rfl⟩ := List.mem_map.1 hy
  have hb := b.toNat_lt
  simp only [List.mem_cons, List.not_mem_nil, or_false] at hz
  rcases hz with rfl | rfl
  · have := hx_bare0 ⟨b.toNat / 16, by omega⟩
    simpa using this
  · have := hx_bare0 ⟨b.toNat % 16, by omega⟩
    simpa using this
theorem strI_list (a : List Int) : (Hx2.strI a).data.toList = a.map fun z => UInt8.ofNat z.toNat := by
  induction a with
  | nil => rfl
  | cons x a ih =>
    unfold Hx2.strI
    rw [List.foldl_cons, strI_app]
    simp [ih, ByteArray.push]
def hxT (k : Lk) : List UInt8 := (hxL k.l).map fun z => UInt8.ofNat z.toNat
/-- magnet:?xt=urn:btmh:1220 -/
def bgn : List UInt8 := [109, 97, 103, 110, 101, 116, 58, 63, 120, 116, 61, 117, 114, 110, 58, 98, 116, 109, 104, 58, 49, 50, 50, 48]
theorem strI_bs (k : Lk) : Hx2.strI (hxL k.l) = bs (hxT k) := by
  apply ByteArray.ext
  apply Array.toList_inj.1
  rw [strI_list, bs_tl]
  rfl
theorem info_bs (k : Lk) : infoV k = bs (inB ++ hxT k) := by
  unfold infoV
  rw [strI_bs]
  exact app_str _ _
theorem inB_bare : ∀ x ∈ inB, isB x = true := by decide +kernel
theorem wS_p1 (k : Lk) : wS (p1 k) = bgn ++ hxT k := by
  unfold p1
  rw [wS_one, pcT, info_bs, bs_tl, bs_tl]
  rw [esc_bare (inB ++ hxT k) (fun x hx => by
    rcases List.mem_append.1 hx with h | h
    · exact inB_bare x h
    · exact hx_bare _ x h)]
  rfl
theorem p1_ne (k : Lk) (l : List KV) : p1 k ++ l ≠ [] := by simp [p1]
theorem wS_dn (k : Lk) (nm : ByteArray) : wS (p1 k ++ [(bs [100, 110], nm)]) = wS (p1 k) ++ [38, 100, 110, 61] ++ esc nm.data.toList := by
  rw [wS_snoc _ _ (by simp [p1]), pcT, bs_tl]
  have : esc [100, 110] = [100, 110] := by decide +kernel
  simp [this]
theorem wS_so (k : Lk) (l : List KV) (rs : List (Int × Int)) (h : ∀ x ∈ rs, RnOk x) : wS (p1 k ++ l ++ [(bs [115, 111], bs (rsT rs))]) = wS (p1 k ++ l) ++ [38, 115, 111, 61] ++ rsT rs := by
  rw [wS_snoc _ _ (p1_ne k l), pcT, bs_tl, bs_tl, esc_bare _ (rsT_bare rs h)]
  have : esc [115, 111] = [115, 111] := by decide +kernel
  simp [this]
theorem wS_tr (k : Lk) (l : List KV) (t : ByteArray) : wS (p1 k ++ l ++ [(bs [116, 114], t)]) = wS (p1 k ++ l) ++ [38, 116, 114, 61] ++ esc t.data.toList := by
  rw [wS_snoc _ _ (p1_ne k l), pcT, bs_tl]
  have : esc [116, 114] = [116, 114] := by decide +kernel
  simp [this]
theorem wS_pe (k : Lk) (l : List KV) (t : ByteArray) : wS (p1 k ++ l ++ [(bs [120, 46, 112, 101], t)]) = wS (p1 k ++ l) ++ [38, 120, 46, 112, 101, 61] ++ esc t.data.toList := by
  rw [wS_snoc _ _ (p1_ne k l), pcT, bs_tl]
  have : esc [120, 46, 112, 101] = [120, 46, 112, 101] := by decide +kernel
  simp [this]
theorem wS_mo (k : Lk) (l : List KV) (a b : ByteArray) : wS (p1 k ++ l ++ [(a, b)]) = wS (p1 k ++ l) ++ [38] ++ esc a.data.toList ++ [61] ++ esc b.data.toList := by
  rw [wS_snoc _ _ (p1_ne k l), pcT]
  simp
/-- the text of the first i runs, as the reference has it -/
def rsI (rs : List (Int × Int)) (i : Nat) : List UInt8 := if i = 0 then [] else [38, 115, 111, 61] ++ rsT (rs.take i)
theorem join_snoc (xs : List (List UInt8)) (y s : List UInt8) (h : xs ≠ []) : Lib.join (xs ++ [y]) s = Lib.join xs s ++ s ++ y := by
  cases xs with
  | nil => exact absurd rfl h
  | cons a t =>
    rw [List.cons_append, Lib.join_cons, Lib.join_cons]
    simp [Lib.joinTail]
theorem rsI_snoc (rs : List (Int × Int)) (i : Nat) (x : Int × Int) (h : rs[i]? = some x) : rsI rs (i + 1) = rsI rs i ++ (if i = 0 then [38, 115, 111, 61] else [44]) ++ rnT x := by
  have hi := (List.getElem?_eq_some_iff.1 h).1
  unfold rsI rsT
  rw [if_neg (by omega), List.take_add_one, h]
  by_cases h0 : i = 0
  · subst h0
    simp [Lib.join_one]
  · rw [if_neg h0, if_neg h0]
    simp only [Option.toList, List.map_append, List.map_cons, List.map_nil]
    rw [join_snoc _ _ _ (by
      intro e
      have h9 : ((rs.take i).map rnT).length = 0 := by rw [e]; rfl
      rw [List.length_map, List.length_take] at h9
      omega)]
    simp
theorem wS_p3 (k : Lk) (h : ∀ x ∈ k.rs, RnOk x) : wS (p1 k ++ p2 k ++ p3 k) = wS (p1 k ++ p2 k) ++ rsI k.rs k.rs.length := by
  unfold p3 rsI
  split
  · simp
  · rw [wS_so k _ _ h, List.take_length]
    simp
theorem lenS (l : List ByteArray) : ∀ (f : ByteArray → KV) (c : Nat), (∀ t, (pcT (f t)).length ≤ c + 3 * t.size) → (txtT (l.map f)).length ≤ (c + 1) * l.length + 3 * (l.map ByteArray.size).sum := by
  induction l with
  | nil => intro f c h; simp [txtT]
  | cons a t ih =>
    intro f c h
    have h1 := ih f c h
    have h2 := h a
    simp [txtT] at h1 ⊢
    rw [Nat.mul_succ]
    omega
theorem pcT_len (a b : ByteArray) : (pcT (a, b)).length ≤ 3 * a.size + 1 + 3 * b.size := by
  have h1 := esc_len a.data.toList
  have h2 := esc_len b.data.toList
  rw [tl_len] at h1 h2
  unfold pcT
  simp only [List.length_append, List.length_cons, List.length_nil]
  omega
theorem lenP6 (k : Lk) (n : Nat) : (txtT (pP6 k n)).length ≤ 2 * n + 3 * sumN (fun i => (k.ky i).size + (k.dv i).s.size) n := by
  induction n with
  | zero => simp [pP6, txtT]
  | succ n ih =>
    rw [p6_snoc, txtT_app]
    have := pcT_len (k.ky n) (k.dv n).s
    simp [txtT, sumN] at this ih ⊢
    omega
theorem wS_bound (k : Lk) (hl : k.l.length = 32) (hs : k.small) (hf : k.few) (hrn : k.rs.length ≤ 4096) (hok : ∀ x ∈ k.rs, RnOk x ∧ x.1 + x.2 ≤ 4096) : (wS (prm k)).length ≤ 1099511627776 := by
  have e0 : (wS (p1 k)).length = 88 := by
    rw [wS_p1]
    unfold hxT hxL
    rw [List.length_append, List.length_map, Hx2.hexI_len, List.length_map, hl]
    rfl
  rw [prm_eq, wS_app _ _ (by simp [p1]), txtT_app, txtT_app, txtT_app, txtT_app]
  have h2 : (txtT (p2 k)).length ≤ 8 + 3 * k.nm.size := by
    unfold p2
    split
    · simp [txtT]
    · have := pcT_len (bs [100, 110]) k.nm
      rw [bs_size] at this
      simp [txtT] at this ⊢
      omega
  have h3 : (txtT (p3 k)).length ≤ 8 + 3 * (44 * k.rs.length) := by
    unfold p3
    split
    · simp [txtT]
    · have := pcT_len (bs [115, 111]) (bs (rsT k.rs))
      have h9 := rsT_len k.rs hok
      rw [bs_size, bs_size] at this
      simp [txtT] at this ⊢
      omega
  have h4 : (txtT (p4 k.ts)).length ≤ 8 * k.ts.length + 3 * (k.ts.map ByteArray.size).sum := lenS k.ts (fun t => (bs [116, 114], t)) 7 fun t => by
    have := pcT_len (bs [116, 114]) t
    rw [bs_size] at this
    simp at this ⊢
    omega
  have h5 : (txtT (p5 k.ps)).length ≤ 14 * k.ps.length + 3 * (k.ps.map ByteArray.size).sum := lenS k.ps (fun t => (bs [120, 46, 112, 101], t)) 13 fun t => by
    have := pcT_len (bs [120, 46, 112, 101]) t
    rw [bs_size] at this
    simp at this ⊢
    omega
  have h6 := lenP6 k k.dn
  have g1 := hs.ts
  have g2 := hs.ps
  have g3 := hs.dn.1
  unfold Lk.few at hf
  simp only [List.length_append]
  omega
end Go.Proofs.YtnpcbcfjnhjmmaaGreatDoor
