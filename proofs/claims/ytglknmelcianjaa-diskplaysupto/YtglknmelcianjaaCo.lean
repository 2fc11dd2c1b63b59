import Derived.Test.YtglknmelcianjaaCw
namespace Go.Proofs.Ytglknmelcianjaa
open Go.RowKit
section
variable {S : Nat → Prop} {w w' : World} {p lb cap mb nm : Nat} {op ov : Value} {M : DataW Value} {L : Nat → Value} {F : Nat → List (Nat × List UInt8)} {last : List UInt8} {ats : List Nat} {fu : Option Nat}
/-- a list of writes that is new -/
theorem DP.clone (h : DP S w p lb cap mb nm op ov M L F last ats fu) (s : Nat) (v : Value) (l : List (Nat × List UInt8)) (hb : Below w.heap.size w w') (h1 : w'.ownsRow w.heap.size 62 65 v l.length (l.flatMap wc)) (hS : ∀ k, w.heap.size ≤ k → S k) :
    DP S w' p lb cap mb nm op ov M (fun t => if t = s then v else L t) (fun t => if t = s then l else F t) last ats fu := by
  have h' := h.fr (Fr.of_below hb)
  have hv : ∀ g, v.ownBlock = some g → w.heap.size ≤ g := fun g hg => by
    rcases h1.2 with ⟨e, _⟩ | ⟨g', _, _, e, h2, _⟩
    · rw [e] at hg; simp [Value.ownBlock] at hg
    · rw [e] at hg; simp [Value.ownBlock] at hg; omega
  refine ⟨h'.blk, h'.las, h'.map, h'.ord, ?_, ?_, h'.sp, h'.sl, h'.sm, h'.so, ?_⟩
  · intro t
    by_cases ht : t = s
    · simp only [ht, if_pos]; exact ownsRow_base h1 (Nat.zero_le _)
    · simp only [if_neg ht]; exact h'.liv t
  · intro a b g hab
    by_cases ha : a = s
    · have hb' : b ≠ s := fun e => hab (ha.trans e.symm)
      simp only [ha, if_pos, if_neg hb']
      intro hga hgb
      have h2 := hv g hga
      have h3 := (ownsRow_lt (h.liv b) g hgb).1
      omega
    · simp only [if_neg ha]
      intro hga
      by_cases hb' : b = s
      · simp only [hb', if_pos]
        intro hgb
        have h2 := hv g hgb
        have h3 := (ownsRow_lt (h.liv a) g hga).1
        omega
      · simp only [if_neg hb']
        exact h.dis a b g hab hga
  · intro t g
    by_cases ht : t = s
    · simp only [ht, if_pos]; exact fun hg => hS g (hv g hg)
    · simp only [if_neg ht]; exact fun hg => h'.sv t g hg
/-- the order and the fuse are handed over -/
theorem DP.hand {v3 : Value} {ats' : List Nat} {fu' : Option Nat} (h : DP S w p lb cap mb nm op ov M L F last ats fu) (ho : w.ownsRow 0 3 1 v3 ats'.length (ats'.map fun x : Nat => Value.int .i64 (x : Int))) (hs : ∀ g, v3.ownBlock = some g → S g)
    (hp : w'.heap[p]? = some (.cells #[.slice (some ⟨lb, 0, none⟩) last.length cap, .map (some mb), v3, .bool fu'.isSome, .int .i64 (fu'.getD 0)] 55 (0, 0))) (hf : Fr (fun k => k ≠ p) w w') : DP S w' p lb cap mb nm v3 v3 M L F last ats' fu' := by
  have h1 := h.own (op' := v3) (fu' := fu') rfl rfl hp hf
  refine ⟨h1.blk, h1.las, h1.map, ?_, h1.liv, h1.dis, h1.sp, h1.sl, h1.sm, hs, h1.sv⟩
  refine ownsRow_fr ho hf (fun g hg e => ?_)
  subst e
  obtain ⟨_, cs, hc⟩ := ownsRow_lt ho _ hg
  rw [h.blk] at hc
  simp at hc
end
/-- slices.Clone of a sector's writes -/
theorem cloneL (v : Value) (l : List (Nat × List UInt8)) (w : World) (hr : OL w v l) (hn : l = [] → v = .slice none 0 0) (hl : l.length ≤ 1073741824) :
    Calls Try.prog 19 #[v] w fun e w' => ∃ v', e = .returned v' ∧ w'.ownsRow w.heap.size 62 65 v' l.length (l.flatMap wc) ∧ (l = [] → v' = .slice none 0 0) ∧ Below w.heap.size w w' := by
  by_cases h : l = []
  · have hv := hn h
    subst h hv
    have hq := fun u : World => Lib.run_eql_slice_nil (P := Try.prog) u 57 62 none 0 0 0 0 Try.underlying57
    go_enter Try.func19, Try.ntmps19
    go_wp2
    go_ret
    exact ⟨_, rfl, World.ownsRow_nil _ _ _ _, rfl, Below.refl _ _⟩
  · refine (cloneW v l.length (l.flatMap wc) w hr (fun u hu => ?_) hl).mono ?_
    · obtain ⟨x, _, hx⟩ := List.mem_flatMap.1 hu
      unfold wc at hx
      rcases List.mem_cons.1 hx with rfl | hx
      · rfl
      · simp [Lib.byteCells] at hx
        obtain ⟨b, _, rfl⟩ := hx
        rfl
    · rintro e w' ⟨v', rfl, h1, h2⟩
      exact ⟨v', rfl, h1, fun h' => absurd h' h, h2⟩
/-- a copy under way -/
structure CR (w : World) (q lb mb2 cap r mb : Nat) (ov : Value) (M : DataW Value) (D : Dk) (left : Lit → Bool) (cnt : Nat) (wr : World) : Prop where
  rg : wr.ranges Try.prog 3 idR mb r D.ws.length M left cnt
  cp : ∃ nm M2 L2, nm + cnt ≤ D.ws.length ∧ DP (fun k => w.heap.size ≤ k ∧ k ≠ r) wr q lb cap mb2 nm ov ov M2 L2 (fun s => if left (ky s) then [] else lv s 0 D.ws) D.last (D.ws.map (·.at_)) D.fu ∧
    (∀ kl, Maps.has M2 kl = true → ∃ s, kl = ky s ∧ (nw s D.ws).isSome = true ∧ left (ky s) = false) ∧
    (∀ s d, nw s D.ws = some d → left (ky s) = false → Maps.has M2 (ky s) = true ∧ ∀ z, M2.atKey (ky s) z = .held (secV d (L2 s))) ∧
    (∀ s, (if left (ky s) then [] else lv s 0 D.ws) = [] → L2 s = .slice none 0 0)
  f : Below w.heap.size w wr
theorem CR.done {w wr : World} {q lb mb2 cap r mb : Nat} {ov : Value} {M : DataW Value} {D : Dk} {left : Lit → Bool} {cnt : Nat} (h : CR w q lb mb2 cap r mb ov M D left cnt wr) (hl : ∀ kl, left kl = false) (hg : Gd D) : DK (fun k => w.heap.size ≤ k) wr q D := by
  obtain ⟨nm, M2, L2, h1, h2, h3, h4, h5⟩ := h.cp
  have e : (fun s => if left (ky s) then [] else lv s 0 D.ws) = fun s => lv s 0 D.ws := by
    funext s
    rw [hl (ky s)]
    rfl
  rw [e] at h2
  have h2' := h2.sub (T := fun k => w.heap.size ≤ k) (fun k _ hk => hk.1)
  refine ⟨lb, cap, mb2, ov, M2, L2, h2'.blk, h2'.las, h2'.map.mono (by omega), ?_, fun kl hk => ?_, fun s d hd => h4 s d hd (hl _), h2'.liv, fun s hs => h5 s (by rw [hl (ky s)]; exact hs), h2'.dis, h2'.sp, h2'.sl, h2'.sm, h2'.so, h2'.sv, hg⟩
  · have := h2'.ord
    rw [List.length_map, List.map_map] at this
    exact this
  · obtain ⟨s, a, b, _⟩ := h3 kl hk
    exact ⟨s, a, b⟩
theorem CR.start {S : Nat → Prop} {w w3 w5 w0 : World} {p q lb0 cap0 mb lq cq mq : Nat} {ov0 oq v3 : Value} {M Mq : DataW Value} {L Lq : Nat → Value} {D : Dk} (h : DI S w5 p lb0 cap0 mb ov0 M L D) (hq : DI (fun k => w.heap.size ≤ k) w3 q lq cq mq oq Mq Lq ⟨D.last, [], none⟩)
    (hd : DP (fun k => w.heap.size ≤ k) w5 q lq cq mq 0 v3 v3 Mq Lq (fun s => lv s 0 []) D.last (D.ws.map (·.at_)) D.fu) (hb : Below w.heap.size w w5) (hr : w0.ranges Try.prog 3 idR mb w5.heap.size D.ws.length M (Maps.has M) (Maps.size M)) (hg : w5.grownBy w0 none) :
    CR w q lq mq cq w5.heap.size mb v3 M D (Maps.has M) (Maps.size M) w0 := by
  have hno : ∀ s, Maps.has M (ky s) = false → nw s D.ws = none := fun s hs => by
    cases hn : nw s D.ws with
    | none => rfl
    | some d => rw [(h.got s d hn).1] at hs; cases hs
  have e : (fun s => lv s 0 ([] : List Wt)) = fun s => if Maps.has M (ky s) then [] else lv s 0 D.ws := by
    funext s
    show [] = _
    cases hs : Maps.has M (ky s) with
    | true => rfl
    | false => exact (lv_nil (hno s hs) 0).symm
  have hbel : Below w5.heap.size w5 w0 := ⟨hg.os, hg.tape, hg.output, hg.size, fun k hk => hg.block k hk (by simp)⟩
  refine ⟨hr, ⟨0, Mq, Lq, by have := h.map.size_le; omega, ?_, fun kl hk => ?_, fun s d hd hl => ?_, fun s _ => hq.nol s rfl⟩, hb.trans (hbel.mono hb.size)⟩
  · rw [← e]
    exact (hd.sub (T := fun k => w.heap.size ≤ k ∧ k ≠ w5.heap.size) (fun k hk h => ⟨h, by omega⟩)).fr (Fr.of_below hbel)
  · obtain ⟨s, _, h2⟩ := hq.key kl hk
    cases h2
  · rw [hno s hl] at hd
    cases hd
end Go.Proofs.Ytglknmelcianjaa
