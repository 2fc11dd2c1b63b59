import Derived.Test.YtfpokhcddjgfmaaJn
namespace Go.Proofs.Ytfpokhcddjgfmaa
open Go.RowKit
theorem dl_append (a b : ByteArray) : (a ++ b).data.toList = a.data.toList ++ b.data.toList := by rw [ByteArray.data_append, Array.toList_append]
theorem ba_ext' {s t : ByteArray} (h : s.data.toList = t.data.toList) : s = t := ba_ext (by rw [ByteArray.toList_eq, ByteArray.toList_eq, h])
theorem tail_snoc (l : List ByteArray) (s : ByteArray) : Lib.joinTail [47] ((l ++ [s]).map (·.data.toList)) = Lib.joinTail [47] (l.map (·.data.toList)) ++ ([47] ++ s.data.toList) := by
  simp [Lib.joinTail]
/-- the text of the first k names -/
def jk (l : List ByteArray) (k : Nat) : List UInt8 := (sa l 0).data.toList ++ Lib.joinTail [47] (((l.take k).drop 1).map (·.data.toList))
theorem jk_one (l : List ByteArray) : jk l 1 = (sa l 0).data.toList := by
  unfold jk
  rw [List.drop_take]; simp [Lib.joinTail]
theorem jk_next {l : List ByteArray} {k : Nat} (h0 : 1 ≤ k) (h : k < l.length) : jk l (k + 1) = jk l k ++ ([47] ++ (sa l k).data.toList) := by
  unfold jk
  rw [sa_take h, List.drop_append_of_le_length (by rw [List.length_take]; omega), tail_snoc, List.append_assoc]
theorem jk_all {l : List ByteArray} (h : l.length ≠ 0) : jk l l.length = (jo l).data.toList := by
  unfold jk jo
  match l, h with
  | a :: r, _ =>
    rw [List.take_length, List.drop_one, List.tail_cons, List.map_cons, Lib.join_cons]
    rfl
theorem jk_len {l : List ByteArray} {k : Nat} (hp : pe l = 0) (h1 : 1 ≤ k) (h : k ≤ l.length) : (jk l k).length ≤ 4096 := by
  obtain ⟨h0, h2, h3⟩ := pe_ok hp
  unfold jk
  have h4 : (sa l 0).data.size ≤ 255 := ce_size (h3 _ (sa_mem (by omega)))
  have h5 := tail_len ((l.take k).drop 1) fun s hs => ce_size (h3 s (List.mem_of_mem_take (List.mem_of_mem_drop hs)))
  rw [List.length_append, Array.length_toList]
  rw [List.length_drop, List.length_take] at h5
  omega
set_option maxHeartbeats 1000000 in
theorem join24 (l : List ByteArray) (v : Value) (w : World) (hf : FL l) (hr : SR w l v) :
    Calls Try.prog 24 #[v] w fun e w' => e = .returned (.tuple #[.string (if pe l = 0 then jo l else ⟨#[]⟩), .int .i64 (pe l)]) ∧ Below w.heap.size w w' := by
  have HF : Hid (FL l) := hf
  have HR : Hid (SR w l v) := hr
  obtain ⟨va, vc, rfl, _, _⟩ := hr
  by_cases hz : pe l = 0
  · have HZ : Hid (pe l = 0) := hz
    have HP := path22 _ l w HF.out HR.out
    rw [hz] at HP
    rw [if_pos hz, hz]
    obtain ⟨h0, h16, hce⟩ := pe_ok hz
    have HP' : Hid (Calls Try.prog 22 #[.slice va l.length vc] w fun e w' => e = .returned (.int .i64 0) ∧ Below w.heap.size w w') := HP
    have HJ : Hid (jk l l.length = (jo l).data.toList) := jk_all h0
    have HS : Hid (∀ k, k < l.length → (sa l k).size ≤ 255) := fun k hk => ce_size (hce _ (sa_mem hk))
    generalize hN : l.length = N at *
    have HN : Hid (l.length = N) := hN
    clear hz HP hf hN hce
    go_enter Try.func24, Try.ntmps24
    go_wp2_with fail
    refine HP'.out.mono ?_
    rintro e w1 ⟨rfl, hb1⟩
    have B1 : Hid (Below w.heap.size w w1) := hb1
    have R1 : Hid (SR w1 l _) := HR.out.keep hb1
    clear hb1 HR HP'
    obtain ⟨b, off, rfl, _, k0⟩ := R1.out.cellAt (k := 0) (by have := HN.out; omega)
    rw [Nat.add_zero] at k0
    have HK : Hid (jk l 1 = (sa l 0).data.toList) := jk_one l
    generalize sa l 0 = x0 at *
    go_wp2
    go_loop [5, 6] (fun s i => ∃ (k : Nat) (t : ByteArray), 1 ≤ k ∧ k ≤ N ∧ i = .int .i64 k ∧ s = .string t ∧ Hid (t.data.toList = jk l k)) (fun _ i => N - (intOf i).toNat)
    case atStart => exact ⟨1, x0, Nat.le_refl _, by omega, rfl, rfl, HK.out.symm⟩
    case round =>
      obtain ⟨k, t, hk1, hk2, rfl, rfl, HT⟩ := hrel
      by_cases hlt : k < N
      · obtain ⟨b', off', hbe, _, k1⟩ := R1.out.cellAt (k := k) (by have := HN.out; omega)
        cases hbe
        have HX : Hid (jk l (k + 1) = jk l k ++ ([47] ++ (sa l k).data.toList)) := jk_next hk1 (by have := HN.out; omega)
        have hys : (sa l k).size ≤ 255 := HS.out k (by have := HN.out; omega)
        have hts : t.size ≤ 4096 := by
          have := jk_len HZ.out hk1 (by have := HN.out; omega)
          rw [← HT.out, Array.length_toList] at this; exact this
        generalize sa l k = y at *
        clear k0
        go_wp2
        exact ⟨⟨k + 1, _, by omega, by omega, by go_num, rfl, by rw [dl_append, dl_append, HT.out, List.append_assoc]; exact HX.out.symm⟩, by simp [intOf]; omega⟩
      · obtain rfl : k = N := by omega
        have HE : Hid (t = jo l) := ba_ext' (by rw [HT.out, HJ.out])
        clear k0
        go_wp2
        go_ret2
        exact ⟨by rw [HE.out]; rfl, B1.out⟩
  · have HP' : Hid (Calls Try.prog 22 #[.slice va l.length vc] w fun e w' => e = .returned (.int .i64 (pe l)) ∧ Below w.heap.size w w') := path22 _ l w HF.out HR.out
    rw [if_neg hz]
    have hz' : (pe l == 0) = false := beq_eq_false_iff_ne.2 hz
    generalize pe l = z at *
    clear hz hf
    go_enter Try.func24, Try.ntmps24
    go_wp2_with fail
    refine HP'.out.mono ?_
    rintro e w1 ⟨rfl, hb1⟩
    go_wp2
    go_ret2
    exact ⟨rfl, hb1⟩
end Go.Proofs.Ytfpokhcddjgfmaa
