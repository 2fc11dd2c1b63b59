import Derived.Test.YtpembmfpgolniaaDoorOc
namespace Go.Proofs.YtpembmfpgolniaaDoor
open Go.RowKit
/-- the world with field n's row in a box of its own -/
abbrev bxw (w : World) (vs : List Value) : World := (w.alloc (.cells nil5 64)).setRow w.heap.size vs.toArray
theorem FLD.one {w : World} {c : Nat} {vs : List Value} (h : FLD w c vs) : vs.toArray.all (·.oneCell') = true := by
  unfold FLD at h
  split at h
  all_goals first | (subst h; simp [Value.oneCell']) | (obtain ⟨p, q, s, rfl, _⟩ := h; simp [numVs, Value.oneCell']) | exact absurd h id
theorem bxw_below (w : World) (vs : List Value) : Below w.heap.size w (bxw w vs) := belowSetRow ((Below.refl _ _).alloc (Nat.le_refl _) _) (Nat.le_refl _) _
theorem bxw_heap (w : World) (vs : List Value) : (bxw w vs).heap[w.heap.size]? = some (.cells vs.toArray 64 (0, 0)) := heapSetRow _ _ _ _ _ (heapNew _ _)
theorem bxw_size (w : World) (vs : List Value) : w.heap.size < (bxw w vs).heap.size := (Array.getElem?_eq_some_iff.1 (bxw_heap w vs)).1
/-- all looks -/
def lks (cs : List Nat) (m : Mv) : Bool := cs.all fun c => lk c m
set_option maxHeartbeats 1000000 in
set_option maxRecDepth 100000 in
theorem allowedT (w : World) (v : Value) (cs : List Nat) (g : Nat) (m : Mv) (hm : MB w g m) (ok : m.ok) (hf : FS w v cs) (hl : cs.length < 100) :
    Calls Tryd.prog 21 #[v, ptr g] w fun e w' => e = .returned (.bool (lks cs m)) ∧ Below w.heap.size w w' := by
  have HF : Hid (FS w v cs ∧ MB w g m ∧ m.ok) := ⟨hf, hm, ok⟩
  obtain ⟨a, cap, rfl, hfa⟩ := hf
  clear hm ok
  go_enter Tryd.func21, Tryd.ntmps21
  go_wp2
  generalize hn : cs.length = len at *
  have HN : Hid (cs.length = len) := hn
  clear hn
  go_loopw [9] (fun t wr => ∃ n : Nat, n ≤ len ∧ t = .int .i64 n ∧ Hid (lks (cs.take n) m = true) ∧ Hid (Below w.heap.size w wr)) (fun t _ => len - (intOf t).toNat)
  case atStart => exact ⟨0, by omega, rfl, by simp [lks, Hid], Below.refl _ _⟩
  case round =>
    obtain ⟨n, hn, rfl, hall, hb⟩ := hrel
    by_cases hlt : n < len
    · have hl2 : n < cs.length := by rw [HN.out]; exact hlt
      have hx : cs[n]? = some cs[n] := List.getElem?_eq_getElem hl2
      generalize cs[n] = c at hx
      rcases hfa with h | ⟨G, cur, rfl, hG, hfa⟩
      · rw [h] at hl2; simp at hl2
      obtain ⟨vs, hv, hr⟩ := hfa n c hx
      obtain ⟨v0, v1, v2, v3, v4, rfl⟩ := hv.len
      have hGlt := (Array.getElem?_eq_some_iff.1 hG).1
      have hr' : wr.rangeAt G (n * 5) [v0, v1, v2, v3, v4] := fun j y hj => (hb.out.cell (p := ⟨G, n * 5 + j, none⟩) hGlt).trans (hr j y hj)
      have hi5 : (Tryd.prog.info? 64).map (·.size) = some [v0, v1, v2, v3, v4].length := info_field
      have hi5' : (Tryd.prog.info? 64).map (·.size) = some ([v0, v1, v2, v3, v4] : List Value).toArray.size := info_field
      have hone : ([v0, v1, v2, v3, v4] : List Value).toArray.all (·.oneCell') = true := hv.one
      have hb2 : Below w.heap.size w (bxw wr [v0, v1, v2, v3, v4]) := hb.out.trans ((bxw_below _ _).mono hb.out.size)
      have hv2 : FLD (bxw wr [v0, v1, v2, v3, v4]) c [v0, v1, v2, v3, v4] := hv.below hb2
      obtain ⟨f, caps, rfl, he, hc⟩ := hv2.look
      have HC : Hid (LKC (bxw wr [v0, v1, v2, clo f caps, v4]) c f caps ∧ Below w.heap.size w (bxw wr [v0, v1, v2, clo f caps, v4])) := ⟨hc, hb2⟩
      have h3 : (bxw wr [v0, v1, v2, clo f caps, v4]).cell? ⟨wr.heap.size, 3, none⟩ = some (clo f caps) := rangeOf (bxw_heap _ _) 3 _ rfl
      have hg0 := heapNew wr (.cells nil5 64)
      clear hc hb2 hv2 hv hr hfa
      go_wp2_with (first | (refine wpList_load_mid rfl 64 _ rfl G (n * 5) rfl _ _ hr' Tryd.underlying64 rfl hi5 ?_) | (refine wpList_store_row rfl 64 _ _ rfl wr.heap.size _ rfl rfl 64 nil5 hg0 hi5' rfl hone ?_))
      refine (HC.out.1 g m (HF.out.2.1.below HC.out.2) HF.out.2.2).mono ?_
      rintro e w2 ⟨rfl, rfl⟩
      have HB : Hid (Below w.heap.size w (bxw wr [v0, v1, v2, clo f caps, v4])) := HC.out.2
      clear HC h3 hg0
      by_cases hk : lk c m = true
      · have ht : cs.take (n + 1) = cs.take n ++ [c] := by rw [List.take_add_one, hx]; rfl
        rw [hk]
        go_wp2
        refine ⟨⟨n + 1, by omega, by go_num, ?_, HB.out⟩, by simp [intOf]; omega⟩
        have h0 := hall.out
        unfold lks at h0 ⊢
        unfold Hid
        rw [ht, List.all_append, h0]
        simp [hk]
      · have hk' : lk c m = false := by simpa using hk
        have HE : Hid (lks cs m = false) := by
          unfold lks Hid
          rw [List.all_eq_false]
          exact ⟨c, List.mem_of_getElem? hx, by simp [hk']⟩
        rw [hk']
        clear hk hk'
        go_wp2
        go_ret
        exact ⟨by rw [HE.out]; rfl, HB.out⟩
    · go_wp2
      go_ret
      refine ⟨?_, hb.out⟩
      have h0 := hall.out
      rw [List.take_of_length_le (by have := HN.out; omega)] at h0
      rw [h0]; rfl
end Go.Proofs.YtpembmfpgolniaaDoor
