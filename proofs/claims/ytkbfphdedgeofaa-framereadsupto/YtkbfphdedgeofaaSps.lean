import Derived.Test.YtkbfphdedgeofaaSpl
namespace Go.Proofs.Ytkbfphdedgeofaa
open Go.RowKit
/-- the bytes of frames -/
def sz (bs : List (List UInt8)) : Nat := (bs.map fun b => 4 + b.length).sum
theorem sz_snoc (bs : List (List UInt8)) (b : List UInt8) : sz (bs ++ [b]) = sz bs + (4 + b.length) := by simp [sz]
theorem sz_cons (bs : List (List UInt8)) (b : List UInt8) : sz (b :: bs) = 4 + b.length + sz bs := by simp [sz]
theorem Rd.frames {h : Bool} {l : List UInt8} {met bs : List (List UInt8)} {h' : Bool} {r : List UInt8} {e : Int} (x : Rd h l met bs h' r e) : h = false → met = [] ∧ h' = false ∧ l.length = sz bs + r.length ∧ r = l.drop (sz bs) ∧ (e = 0 ∨ e = 102) ∧ ∀ b ∈ bs, b.length ≤ 32768 := by
  induction x with
  | bad l hs => intro h; cases h
  | few l hs hl => intro h; cases h
  | hello l met bs h r e hs hl _ ih => intro h; cases h
  | num l hl => intro _; exact ⟨rfl, rfl, by simp [sz], by simp [sz], .inl rfl, by simp⟩
  | big l hl hn => intro _; exact ⟨rfl, rfl, by simp [sz], by simp [sz], .inr rfl, by simp⟩
  | part l hl hn hp => intro _; exact ⟨rfl, rfl, by simp [sz], by simp [sz], .inl rfl, by simp⟩
  | body l met bs h r e hl hn hp _ ih =>
    intro _
    obtain ⟨h1, h2, h3, h4, h5, h6⟩ := ih rfl
    have hlen : ((l.drop 4).take (nm l)).length = nm l := by rw [List.length_take, List.length_drop]; omega
    rw [List.length_drop] at h3
    refine ⟨h1, h2, by rw [sz_cons, hlen]; omega, ?_, h5, ?_⟩
    · rw [sz_cons, hlen, h4, List.drop_drop]
    · intro b hb
      rcases List.mem_cons.1 hb with rfl | hb
      · omega
      · exact h6 b hb
/-- what is left when reading goes on at a place -/
theorem drop_get (l : List UInt8) (k i : Nat) : byt (l.drop k) i = byt l (k + i) := byt_drop l k i
set_option maxHeartbeats 4000000 in
theorem split (v : Value) (l : List UInt8) (f0 : Nat) (hf0 : f0 ≤ l.length) (hl : l.length ≤ 33554432) (w : World) (hr : RB w v l) :
    Calls Try.prog 31 #[v, .int .i64 f0] w fun e w' => ∃ bv bs k er, e = .returned (.tuple #[bv, .int .i64 (k : Nat), .int .i64 er]) ∧ Rd false (l.drop f0) [] bs false (l.drop k) er ∧ k = f0 + sz bs ∧ k ≤ l.length ∧ OR w.heap.size w' bv bs ∧ Below w.heap.size w w' := by
  have HR : Hid (RB w v l) := hr
  obtain ⟨a, c, rfl, _, hr⟩ := hr
  have HC : Hid (∀ k, k < l.length → ∃ b o, a = some ⟨b, o, none⟩ ∧ b < w.heap.size ∧ ∀ wr, Below w.heap.size w wr → ∀ j, j < l.length → wr.cell? ⟨b, o + j, none⟩ = some (.int .u8 ((byt l j).toNat : Int))) := by
    intro k hk
    rcases hr with rfl | ⟨b, o, rfl, hb, hc⟩
    · simp at hk
    · exact ⟨b, o, rfl, hb, fun wr hw j hj => (hw.cell (p := ⟨b, o + j, none⟩) hb).trans (hc j hj)⟩
  clear hr
  go_enter Try.func31, Try.ntmps31
  go_wp2
  go_loopw [7, 8] (fun bv t wr => ∃ (bs : List (List UInt8)) (k : Nat) (ba : Option Addr) (bcap : Nat), bv = .slice ba bs.length bcap ∧ t = .int .i64 k ∧ k ≤ l.length ∧ Hid (k = f0 + sz bs ∧ (∀ bs' r' e', Rd false (l.drop k) [] bs' false r' e' → Rd false (l.drop f0) [] (bs ++ bs') false r' e') ∧ OR w.heap.size wr (.slice ba bs.length bcap) bs ∧ Below w.heap.size w wr ∧ 4 * bs.length ≤ k)) (fun _ t _ => l.length - (intOf t).toNat)
  case atStart => exact ⟨[], f0, none, 0, rfl, rfl, hf0, by simp [sz], fun _ _ _ h => h, OR.nil _ _, Below.refl _ _, by simp⟩
  case round =>
    obtain ⟨bs, k, ba, bcap, rfl, rfl, hk, H⟩ := hrel
    by_cases h4 : k + 4 ≤ l.length
    · obtain ⟨b, o, rfl, hb, hcc⟩ := HC.out k (by omega)
      have hc := hcc wr H.out.2.2.2.1
      have q0 := hc k (by omega)
      have q1 := hc (k + 1) (by omega)
      have q2 := hc (k + 2) (by omega)
      have q3 := hc (k + 3) (by omega)
      have e0 := drop_get l k 0
      have e1 := drop_get l k 1
      have e2 := drop_get l k 2
      have e3 := drop_get l k 3
      have hnm : nm (l.drop k) = (((byt l k).toNat * 256 + (byt l (k + 1)).toNat) * 256 + (byt l (k + 2)).toNat) * 256 + (byt l (k + 3)).toNat := by unfold nm; rw [e0, e1, e2, e3]; rfl
      have hdl : (l.drop k).length = l.length - k := List.length_drop
      have b0 := UInt8.toNat_lt (byt l k)
      have b1 := UInt8.toNat_lt (byt l (k + 1))
      have b2 := UInt8.toNat_lt (byt l (k + 2))
      have b3 := UInt8.toNat_lt (byt l (k + 3))
      have HNM : Hid (nm (l.drop k) = (((byt l k).toNat * 256 + (byt l (k + 1)).toNat) * 256 + (byt l (k + 2)).toNat) * 256 + (byt l (k + 3)).toNat ∧ (l.drop k).length = l.length - k) := ⟨hnm, hdl⟩
      clear hcc hc e0 e1 e2 e3 hnm hdl
      generalize (byt l k).toNat = x0 at *
      generalize (byt l (k + 1)).toNat = x1 at *
      generalize (byt l (k + 2)).toNat = x2 at *
      generalize (byt l (k + 3)).toNat = x3 at *
      have a0 : (0 : Int) ≤ (k : Int) := by omega
      have a1 : (k : Int) + 4 ≤ (l.length : Int) := by omega
      obtain ⟨nn, hnn⟩ : ∃ nn, ((x0 * 256 + x1) * 256 + x2) * 256 + x3 = nn := ⟨_, rfl⟩
      have hN : (((x0 : Int) * 256 + x1) * 256 + x2) * 256 + x3 = (nn : Int) := by omega
      have hnl : nn < 4294967296 := by omega
      have HN2 : Hid (nm (l.drop k) = nn ∧ (l.drop k).length = l.length - k) := ⟨HNM.out.1.trans hnn, HNM.out.2⟩
      clear hnn HNM
      go_wp2
      go_quiet (fail)
      rename_i nq
      have H2 : Hid (k = f0 + sz bs ∧ (∀ bs' r' e', Rd false (l.drop k) [] bs' false r' e' → Rd false (l.drop f0) [] (bs ++ bs') false r' e') ∧ OR w.heap.size (wr.drewN nq) (.slice ba bs.length bcap) bs ∧ Below w.heap.size w (wr.drewN nq) ∧ 4 * bs.length ≤ k) := ⟨H.out.1, H.out.2.1, H.out.2.2.1.keep (fun _ _ _ => rfl), belowN H.out.2.2.2.1 _, H.out.2.2.2.2⟩
      clear H q0 q1 q2 q3 hN b0 b1 b2 b3
      generalize wr.drewN nq = wq at *
      by_cases hbig : 32768 < nn
      · have R1 := H2.out.2.1 _ _ _ (Rd.big (l.drop k) (by have := HN2.out.2; omega) (by rw [HN2.out.1]; exact hbig))
        rw [List.append_nil] at R1
        have HE : Hid (Rd false (l.drop f0) [] bs false (l.drop k) 102 ∧ k = f0 + sz bs ∧ k ≤ l.length ∧ OR w.heap.size wq (.slice ba bs.length bcap) bs ∧ Below w.heap.size w wq) := ⟨R1, H2.out.1, hk, H2.out.2.2.1, H2.out.2.2.2.1⟩
        clear R1
        go_wp2
        go_ret3
        exact ⟨_, bs, k, 102, rfl, HE.out⟩
      · by_cases hpt : l.length < k + 4 + nn
        · have R1 := H2.out.2.1 _ _ _ (Rd.part (l.drop k) (by have := HN2.out.2; omega) (by rw [HN2.out.1]; omega) (by rw [HN2.out.1]; have := HN2.out.2; omega))
          rw [List.append_nil] at R1
          have HE : Hid (Rd false (l.drop f0) [] bs false (l.drop k) 0 ∧ k = f0 + sz bs ∧ k ≤ l.length ∧ OR w.heap.size wq (.slice ba bs.length bcap) bs ∧ Below w.heap.size w wq) := ⟨R1, H2.out.1, hk, H2.out.2.2.1, H2.out.2.2.2.1⟩
          clear R1
          go_wp2
          go_ret3
          exact ⟨_, bs, k, 0, rfl, HE.out⟩
        · have PT : Hid (Calls Try.prog 33 #[.slice (some ⟨b, o, none⟩) l.length c, .int .i64 ((k : Int) + 4), .int .i64 ((k : Int) + 4 + (nn : Int))] wq fun e w' => ∃ u, e = .returned u ∧ OW wq.heap.size w' u ((l.drop (k + 4)).take nn) ∧ Below wq.heap.size wq w') := by
            have := part (.slice (some ⟨b, o, none⟩) l.length c) l (k + 4) (k + 4 + nn) (by omega) (by omega) (by omega) wq (HR.out.keep H2.out.2.2.2.1)
            rw [show k + 4 + nn - (k + 4) = nn by omega] at this
            simp only [Int.natCast_add, Int.cast_ofNat_Int] at this
            exact this
          have hlen : ((l.drop (k + 4)).take nn).length = nn := by rw [List.length_take, List.length_drop]; omega
          have RDX : Hid (∀ bs' r' e', Rd false (l.drop (k + 4 + nn)) [] bs' false r' e' → Rd false (l.drop f0) [] ((bs ++ [(l.drop (k + 4)).take nn]) ++ bs') false r' e') := fun bs' r' e' h => by
            rw [List.append_assoc]
            refine H2.out.2.1 _ _ _ ?_
            have := Rd.body (l.drop k) [] bs' false r' e' (by have := HN2.out.2; omega) (by rw [HN2.out.1]; omega) (by rw [HN2.out.1]; have := HN2.out.2; omega) (by rw [HN2.out.1, List.drop_drop, ← Nat.add_assoc]; exact h)
            rw [HN2.out.1, List.drop_drop] at this
            exact this
          have HS : Hid (sz (bs ++ [(l.drop (k + 4)).take nn]) = sz bs + (4 + nn)) := by rw [sz_snoc, hlen]; exact rfl
          clear hlen
          generalize (l.drop (k + 4)).take nn = T at *
          go_wp2_with fail
          refine PT.out.mono ?_
          rintro e w2 ⟨u, rfl, o2, b2⟩
          have ho2 : OW w.heap.size w2 u T := o2.mono H2.out.2.2.2.1.size
          have B2 : Below w.heap.size w w2 := H2.out.2.2.2.1.trans (b2.mono H2.out.2.2.2.1.size)
          have OR2 : OR w.heap.size w2 (.slice ba bs.length bcap) bs := H2.out.2.2.1.keep (fun k _ hl => b2.block k hl)
          obtain ⟨ua, un, uc, rfl⟩ := ho2.form3
          have A3 : Hid (OR w.heap.size (w2.alloc (.cells #[.slice ua un uc] 28)) (.slice ba bs.length bcap) bs ∧ OW w.heap.size (w2.alloc (.cells #[.slice ua un uc] 28)) (.slice ua un uc) T ∧ Below w.heap.size w (w2.alloc (.cells #[.slice ua un uc] 28))) := ⟨OR2.keep (fun k _ hl => heapOld _ _ _ hl), ho2.alloc _, B2.alloc B2.size _⟩
          clear o2 b2 ho2 B2 OR2 PT
          have hbl : bs.length < 1073741824 := by have := H2.out.2.2.2.2; omega
          go_wp2_with (at_builtin; refine append_own rfl _ _ rfl rfl A3.out.1 w2.heap.size _ T rfl (by go_simp) A3.out.2.1 A3.out.2.2.size hbl ?_; intro v' w5 k1 k2; have A5 : Hid (OR w.heap.size w5 v' (bs ++ [T]) ∧ Below w.heap.size w w5) := ⟨k1, A3.out.2.2.trans k2⟩; clear k1 k2)
          obtain ⟨va, vc, hv⟩ := A5.out.1.form
          go_roundw
          case rel => exact ⟨bs ++ [T], k + 4 + nn, va, vc, hv, by go_num, by omega, by rw [HS.out]; have := H2.out.1; omega, RDX.out, hv ▸ A5.out.1, A5.out.2, by have := H2.out.2.2.2.2; simp; omega⟩
          case measure => simp [intOf]; omega
    · have R1 := H.out.2.1 _ _ _ (Rd.num (l.drop k) (by rw [List.length_drop]; omega))
      rw [List.append_nil] at R1
      have HE : Hid (Rd false (l.drop f0) [] bs false (l.drop k) 0 ∧ k = f0 + sz bs ∧ k ≤ l.length ∧ OR w.heap.size wr (.slice ba bs.length bcap) bs ∧ Below w.heap.size w wr) := ⟨R1, H.out.1, hk, H.out.2.2.1, H.out.2.2.2.1⟩
      clear R1 H
      go_wp2
      go_ret3
      exact ⟨_, bs, k, 0, rfl, HE.out⟩
end Go.Proofs.Ytkbfphdedgeofaa
