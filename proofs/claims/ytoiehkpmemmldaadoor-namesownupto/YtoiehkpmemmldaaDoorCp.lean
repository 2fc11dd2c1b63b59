import Derived.Test.YtoiehkpmemmldaaDoorPl
namespace Go.Proofs.YtoiehkpmemmldaaDoor
open Go.RowKit
/-- all that the round keeps -/
def CI (W : World) (L : List (List ByteArray)) (bm k : Nat) (wr : World) : Prop :=
  ∃ (c : Nat) (S : Nat × ByteArray → Option Nat) (N : List ByteArray → Option Nat), MM wr bm c S ∧ TI eb c N S ∧ LI (L.take k) N ∧ Below W.heap.size W wr ∧ c ≤ tot (L.take k) + k ∧ ∀ b, b < k → ∀ a, a < b → er (la L a) (la L b) = 0
theorem CI.start (W : World) (L : List (List ByteArray)) : CI W L W.heap.size 0 (W.alloc (.map #[] 0)) :=
  ⟨0, _, _, MM.made W, TI.nil eb, by rw [List.take_zero]; exact LI.nil, (Below.refl _ _).alloc (Nat.le_refl _) _, by simp [tot], fun b hb => by omega⟩
theorem BP.made (w : World) (x : Value) : BP (w.alloc (.cells #[x] 29)) w.heap.size x := (MapKept.heap_alloc w _).1
theorem begin_er {L : List (List ByteArray)} {k : Nat} (_hk : k < L.length) (h : ∃ q, q ∈ L.take k ∧ Begin q (la L k)) : ∃ i, i < (L.take k).length ∧ er (la (L.take k) i) (la L k) ≠ 0 := by
  obtain ⟨q, hq, hb⟩ := h
  obtain ⟨i, hi, rfl⟩ := List.getElem_of_mem hq
  exact ⟨i, hi, by rw [la_get hi]; exact er_begin.2 hb⟩
theorem er_begin' {L : List (List ByteArray)} {k a : Nat} (ha : a < k) (hk : k ≤ L.length) (h : ∀ q, q ∈ L.take k → ¬ Begin q (la L k)) : er (la L a) (la L k) = 0 := by
  rcases Classical.em (er (la L a) (la L k) = 0) with h0 | h0
  · exact h0
  · refine absurd (er_begin.1 h0) (h _ ?_)
    have : la L a = (L.take k)[a]'(by rw [List.length_take]; omega) := by rw [la_get (by omega)]; simp
    rw [this]
    exact List.getElem_mem _
theorem la_tk {L : List (List ByteArray)} {k a : Nat} (ha : a < k) (hk : k ≤ L.length) : la (L.take k) a = la L a := by rw [la_get (by rw [List.length_take]; omega), la_get (by omega)]; simp
theorem PF.take {L : List (List ByteArray)} (h : PF L) (k : Nat) : PF (L.take k) := ⟨by have := h.1; have := tot_le L k; rw [List.length_take]; omega, fun l hl => h.2 l (List.mem_of_mem_take hl)⟩
set_option maxHeartbeats 2000000 in
theorem clash6 (v : Value) (L : List (List ByteArray)) (w : World) (hf : PF L) (h1 : PR w L v) :
    Calls Tryd.prog 7 #[v] w fun e w' => ∃ (i j : Nat) (z : Int), e = .returned (.tuple #[.int .i64 i, .int .i64 j, .int .i64 z]) ∧ CL L i j z ∧ Below w.heap.size w w' := by
  have H1 : Hid (PR w L v) := h1
  have HF : Hid (PF L) := hf
  have hl := hf.1
  obtain ⟨a1, c1, rfl, hcap, _⟩ := h1
  clear hf
  generalize hn : L.length = n at *
  have HN : Hid (L.length = n) := hn
  clear hn
  have hmm := @run_makeMap Tryd.prog
  go_enter Tryd.func7, Tryd.ntmps7
  go_wp2
  go_loopw [12] (fun i wr => ∃ k : Nat, k ≤ n ∧ i = .int .i64 k ∧ Hid (CI w L w.heap.size k wr)) (fun i _ => n - (intOf i).toNat)
  case atStart => exact ⟨0, Nat.zero_le _, rfl, CI.start w L⟩
  case round =>
    obtain ⟨k, hk, rfl, HC⟩ := hrel
    by_cases hlt : k < n
    · have hkl : k < L.length := by have := HN.out; omega
      obtain ⟨c, S, N, q1, q2, q3, q4, q5, q6⟩ := HC.out
      obtain ⟨b1, o1, rfl, hb1, x, k1, k2⟩ := (H1.out.keep q4).cellAt hkl
      have Q : Hid (TI eb c N S ∧ LI (L.take k) N ∧ Below w.heap.size w wr ∧ c ≤ tot (L.take k) + k ∧ (∀ b, b < k → ∀ a, a < b → er (la L a) (la L b) = 0) ∧ MM wr w.heap.size c S ∧ SR wr (la L k) x) := ⟨q2, q3, q4, q5, q6, q1, k2⟩
      obtain ⟨xa, xc, rfl, _, _⟩ := k2
      clear q1 q2 q3 q4 q5 q6 HC hmm
      generalize hpn : (la L k).length = pn at *
      have HPN : Hid ((la L k).length = pn) := hpn
      clear hpn
      have hwm : w.heap.size < wr.heap.size := Q.out.2.2.2.2.2.1.lt
      have HA0 : Hid (Below wr.heap.size wr (wr.alloc (.cells #[.slice xa pn xc] 29))) := (Below.refl _ _).alloc (Nat.le_refl _) _
      go_wp2_with fail
      refine (lay13 w.heap.size c (.slice xa pn xc) (la L k) (L.take k) N S _ (HF.out.la hkl) (Q.out.2.2.2.2.2.2.keep HA0.out) (Q.out.2.2.2.2.2.1.alloc _) Q.out.1 Q.out.2.1 (by
        have h1 := Q.out.2.2.2.1; have h2 := tot_take hkl; have h3 := tot_le L (k + 1); have h4 := HF.out.1; have h5 := HN.out; have := HPN.out; omega)).mono ?_
      rintro e w2 ⟨b, rfl, hg, htr, hfa⟩
      have HG : Hid ((wr.alloc (.cells #[.slice xa pn xc] 29)).grownBy w2 (some w.heap.size)) := hg
      have HB2 : Hid (Below w.heap.size w w2) := (Q.out.2.2.1.alloc Q.out.2.2.1.size _).grown hg (by have := Q.out.2.2.1.size; simp; omega) (fun j hj => by cases hj; exact Nat.le_refl _)
      cases b
      · have HX : Hid (∃ i, i < (L.take k).length ∧ er (la (L.take k) i) (la L k) ≠ 0) := begin_er hkl (hfa rfl)
        have HBP : Hid (BP w2 wr.heap.size (.slice xa pn xc)) := (hg.block _ (by simp) (by simp; omega)).trans (BP.made wr _)
        have HSR : Hid (SR w2 (la L k) (.slice xa pn xc)) := (Q.out.2.2.2.2.2.2.keep HA0.out).grown (Q.out.2.2.2.2.2.1.alloc _) hg
        have HPR : Hid (PR w2 L (.slice (some ⟨b1, o1, none⟩) n c1)) := H1.out.keep HB2.out
        have hbp := HBP.out.cell
        clear hg htr hfa k1
        go_wp2_with fail
        refine (idx14 _ _ (L.take k) (la L k) wr.heap.size _ (HF.out.take k) (HF.out.la hkl).1 (HPR.out.take (by omega)) HBP.out HSR.out HX.out).mono ?_
        rintro e w3 ⟨i, rfl, hi, hne, hless, nd, rfl⟩
        have hik : i < k := by rw [List.length_take] at hi; omega
        rw [la_tk hik (by omega)] at hne
        have HZ : Hid (CL L i k (er (la L i) (la L k))) := .inr ⟨rfl, hne, hik, hkl, Q.out.2.2.2.2.1, fun a ha => by have := hless a ha; rwa [la_tk (by omega) (by omega)] at this⟩
        have hin : i < n := by omega
        have HPR3 : Hid (PR (w2.drewN nd) L (.slice (some ⟨b1, o1, none⟩) n c1)) := HPR.out.keep (drB _ _)
        have HSR3 : Hid (SR (w2.drewN nd) (la L k) (.slice xa pn xc)) := HSR.out.keep (drB _ _)
        have hbp3 : (w2.drewN nd).cell? ⟨wr.heap.size, 0, none⟩ = some (.slice xa pn xc) := hbp
        have HB3 : Hid (Below w.heap.size w (w2.drewN nd)) := HB2.out.trans ((drB _ _).mono HB2.out.size)
        clear hbp HPR HSR HBP HB2 HG hi hless hne
        generalize w2.drewN nd = w4 at *
        obtain ⟨b2, o2, he, _, y, g1, g2⟩ := HPR3.out.cellAt (k := i) (by omega)
        simp at he
        obtain ⟨rfl, rfl⟩ := he
        have HC : Hid (∀ nn, Calls Tryd.prog 21 #[y, .slice xa pn xc] (w4.drewN nn) fun e w' => e = .returned (.int .i64 (er (la L i) (la L k))) ∧ ∃ n, w' = (w4.drewN nn).drewN n) := fun nn =>
          against16 y _ _ _ _ (HF.out.la (by omega)).1 (HF.out.la hkl).1 (g2.keep (drB _ _)) (HSR3.out.keep (drB _ _))
        generalize er (la L i) (la L k) = z at *
        clear g2 HSR3 HPR3
        go_wp2
        go_quiet ((go_at_call 21; exact Calls.quiet_of (HC.out _)))
        go_wp2
        exact bodyPost_ret (v := .tuple #[.int .i64 i, .int .i64 k, .int .i64 z]) (by simp [results, Tryd.results7, go_sem]) rfl ⟨i, k, z, rfl, HZ.out, HB3.out.trans ((drB _ _).mono HB3.out.size)⟩
      · obtain ⟨t1, c', S', N', t2, t3, t4, t5⟩ := htr rfl
        have HCI : Hid (CI w L w.heap.size (k + 1) w2) := by
          refine ⟨c', S', N', t3, t4, by rw [la_take hkl]; exact t5, HB2.out, ?_, fun b hb a ha => ?_⟩
          · have h1 := Q.out.2.2.2.1; have h2 := tot_take hkl; omega
          · by_cases e : b = k
            · rw [e] at ha ⊢; exact er_begin' ha (by omega) t1
            · exact Q.out.2.2.2.2.1 b (by omega) a ha
        clear t1 t2 t3 t4 t5 htr hfa hg
        go_wp2
        exact ⟨⟨k + 1, by omega, by go_num, HCI⟩, by simp [intOf]; omega⟩
    · obtain rfl : k = n := by omega
      have HZ : Hid (CL L 0 0 0) := .inl ⟨rfl, rfl, rfl, by rw [HN.out]; exact HC.out.choose_spec.choose_spec.choose_spec.2.2.2.2.2⟩
      have HB : Hid (Below w.heap.size w wr) := HC.out.choose_spec.choose_spec.choose_spec.2.2.2.1
      go_wp2
      exact bodyPost_ret (v := .tuple #[.int .i64 0, .int .i64 0, .int .i64 0]) (by simp [results, Tryd.results7, go_sem]) rfl ⟨0, 0, 0, rfl, HZ.out, HB.out⟩
end Go.Proofs.YtoiehkpmemmldaaDoor
