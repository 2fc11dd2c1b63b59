import Derived.Test.YtpembmfpgolniaaDoorAl
namespace Go.Proofs.YtpembmfpgolniaaDoor
open Go.RowKit
/-- how many bytes these fields take -/
def szs (cs : List Nat) (m : Mv) : Nat := (cs.map fun c => sz c m).sum
theorem sz_le (c : Nat) (m : Mv) (hh : sln m.h ≤ 140737488351232) (hd : sln m.d ≤ 140737488351232) : sz c m ≤ 4503599627239424 := by
  unfold sz
  split <;> omega
theorem szs_le (cs : List Nat) (m : Mv) (hh : sln m.h ≤ 140737488351232) (hd : sln m.d ≤ 140737488351232) : szs cs m ≤ cs.length * 4503599627239424 := by
  induction cs with
  | nil => simp [szs]
  | cons c l ih =>
    have := sz_le c m hh hd
    have e : szs (c :: l) m = sz c m + szs l m := rfl
    rw [e, List.length_cons, Nat.succ_mul]
    omega
set_option maxHeartbeats 1000000 in
set_option maxRecDepth 100000 in
theorem sizeT (w : World) (v : Value) (cs : List Nat) (g : Nat) (m : Mv) (hm : MB w g m) (ok : m.ok) (hf : FS w v cs) (hl : cs.length < 100) (hh : sln m.h ≤ 140737488351232) (hd : sln m.d ≤ 140737488351232) :
    Calls Tryd.prog 24 #[v, ptr g] w fun e w' => e = .returned (.int .i64 (szs cs m : Nat)) ∧ Below w.heap.size w w' := by
  have HF : Hid (FS w v cs ∧ MB w g m ∧ m.ok ∧ sln m.h ≤ 140737488351232 ∧ sln m.d ≤ 140737488351232) := ⟨hf, hm, ok, hh, hd⟩
  obtain ⟨a, cap, rfl, hfa⟩ := hf
  clear hm ok hh hd
  go_enter Tryd.func24, Tryd.ntmps24
  go_wp2
  generalize hn : cs.length = len at *
  have HN : Hid (cs.length = len) := hn
  clear hn
  go_loopw [5, 10] (fun u t wr => ∃ n : Nat, n ≤ len ∧ t = .int .i64 n ∧ u = .int .i64 (szs (cs.take n) m : Nat) ∧ Hid (Below w.heap.size w wr)) (fun _ t _ => len - (intOf t).toNat)
  case atStart => exact ⟨0, by omega, rfl, rfl, Below.refl _ _⟩
  case round =>
    obtain ⟨n, hn, rfl, rfl, hb⟩ := hrel
    by_cases hlt : n < len
    · have hl2 : n < cs.length := by rw [HN.out]; exact hlt
      have hx : cs[n]? = some cs[n] := List.getElem?_eq_getElem hl2
      generalize cs[n] = c at hx
      rcases hfa with h | ⟨G, cur, rfl, hG, hfa⟩
      · rw [h] at hl2; simp at hl2
      obtain ⟨vs, hv, hr⟩ := hfa n c hx
      obtain ⟨v0, v1, v2, v3, v4, rfl⟩ := hv.len
      have hGlt := (Array.getElem?_eq_some_iff.1 hG).1
      have hr' : wr.rangeAt G (n * 5) [v0, v1, v2, v3, v4] := fun j y hj => (hb.out.cell (p := ⟨G, n * 5 + j, none⟩) hGlt).trans (hr j y hj)
      have hi5 : (Tryd.prog.info? 64).map (·.size) = some [v0, v1, v2, v3, v4].length := info_field
      have hi5' : (Tryd.prog.info? 64).map (·.size) = some ([v0, v1, v2, v3, v4] : List Value).toArray.size := info_field
      have hone : ([v0, v1, v2, v3, v4] : List Value).toArray.all (·.oneCell') = true := hv.one
      have hb2 : Below w.heap.size w (bxw wr [v0, v1, v2, v3, v4]) := hb.out.trans ((bxw_below _ _).mono hb.out.size)
      have hv2 : FLD (bxw wr [v0, v1, v2, v3, v4]) c [v0, v1, v2, v3, v4] := hv.below hb2
      obtain ⟨f, caps, rfl, he, hc⟩ := hv2.siz
      have HC : Hid (SZC (bxw wr [clo f caps, v1, v2, v3, v4]) c f caps ∧ Below w.heap.size w (bxw wr [clo f caps, v1, v2, v3, v4])) := ⟨hc, hb2⟩
      have h3 : (bxw wr [clo f caps, v1, v2, v3, v4]).cell? ⟨wr.heap.size, 0, none⟩ = some (clo f caps) := rangeOf (bxw_heap _ _) 0 _ rfl
      have hg0 := heapNew wr (.cells nil5 64)
      clear hc hb2 hv2 hv hr hfa
      go_wp2_with (first | (refine wpList_load_mid rfl 64 _ rfl G (n * 5) rfl _ _ hr' Tryd.underlying64 rfl hi5 ?_) | (refine wpList_store_row rfl 64 _ _ rfl wr.heap.size _ rfl rfl 64 nil5 hg0 hi5' rfl hone ?_))
      refine (HC.out.1 g m (HF.out.2.1.below HC.out.2) HF.out.2.2.1 HF.out.2.2.2.1).mono ?_
      rintro e w2 ⟨rfl, rfl⟩
      have HB : Hid (Below w.heap.size w (bxw wr [clo f caps, v1, v2, v3, v4])) := HC.out.2
      clear HC h3 hg0
      have ht : cs.take (n + 1) = cs.take n ++ [c] := by rw [List.take_add_one, hx]; rfl
      have hs := sz_le c m HF.out.2.2.2.1 HF.out.2.2.2.2
      have hs2 := szs_le (cs.take n) m HF.out.2.2.2.1 HF.out.2.2.2.2
      have hs3 : (cs.take n).length ≤ 100 := by rw [List.length_take]; omega
      have HS : Hid (szs (cs.take (n + 1)) m = szs (cs.take n) m + sz c m) := by unfold szs Hid; rw [ht]; simp
      have hs4 : szs (cs.take n) m ≤ 450359962723942400 := Nat.le_trans hs2 (Nat.mul_le_mul_right _ hs3)
      clear hs2 hs3 ht
      generalize szs (cs.take n) m = S at *
      generalize sz c m = s1 at *
      go_wp2
      refine ⟨⟨n + 1, by omega, by go_num, ?_, HB.out⟩, by simp [intOf]; omega⟩
      rw [HS.out]; go_num
    · have HE : Hid (szs (cs.take n) m = szs cs m) := by
        unfold Hid
        rw [List.take_of_length_le (by have := HN.out; omega)]
      go_wp2
      go_ret
      exact ⟨by rw [← HE.out]; rfl, hb.out⟩
end Go.Proofs.YtpembmfpgolniaaDoor
