import Derived.Test.YtmfeelkjbpjhdaaSps
namespace Go.Proofs.Ytmfeelkjbpjhdaa
open Go.RowKit
theorem ownsRow_mono {w : World} {B B' e size n : Nat} {v : Value} {xs : List Value} (h : w.ownsRow B e size v n xs) (hb : B' ≤ B) : w.ownsRow B' e size v n xs := by
  refine ⟨h.1, ?_⟩
  rcases h.2 with h1 | ⟨g, cap, cur, h1, h2, h3⟩
  · exact .inl h1
  · exact .inr ⟨g, cap, cur, h1, Nat.le_trans hb h2, h3⟩
theorem OB.weak {B B' : Nat} {S T : Nat → Prop} {w : World} {v : Value} {bs : List (List UInt8)} (h : OB B S w v bs) (hb : B' ≤ B) (hs : ∀ g, S g → T g) : OB B' T w v bs := by
  obtain ⟨us, h1, h2, h3⟩ := h
  exact ⟨us, h1, ownsRow_mono h2 hb, fun i hi => (h3 i hi).keep (fun _ _ _ _ => rfl) (fun g x _ => hs g x)⟩
theorem sz_take (bs : List (List UInt8)) (k : Nat) (h : k < bs.length) : sz (bs.take (k + 1)) = sz (bs.take k) + (4 + (bs.getD k []).length) := by
  rw [List.take_succ_eq_append_getElem h, sz_snoc]
  simp [List.getD, List.getElem?_eq_getElem h]
theorem sz_take_le (bs : List (List UInt8)) (k : Nat) : sz (bs.take k) ≤ sz bs := by
  induction bs generalizing k with
  | nil => simp
  | cons b bs ih =>
    cases k with
    | zero => simp [sz]
    | succ k => rw [List.take_succ_cons, sz_cons, sz_cons]; have := ih k; omega
theorem rn_free {w : World} {v : Value} {l : List UInt8} (h : RB w v l) : RN (fun g => (Value.slice none 0 0).ownBlock ≠ some g) w v l := by
  have := RN.of_rb h
  exact this.move (fun g _ => by simp [Value.ownBlock]) (fun _ _ _ _ => rfl)
theorem tx0 (l : List UInt8) : tx 0 0 [] ++ l = l := by simp [tx]
set_option maxHeartbeats 2000000 in
theorem splitP (v : Value) (l : List UInt8) (hl : l.length ≤ 16777216) (w : World) (hr : RB w v l) :
    Calls Try.prog 8 #[v] w fun e w' => ∃ bv bs er, e = .returned (.tuple #[bv, .int .i64 (sz bs : Nat), .int .i64 er]) ∧ (∃ r, Rd false l [] bs false r er) ∧ OB w.heap.size (fun g => w.heap.size ≤ g) w' bv bs ∧ Below w.heap.size w w' := by
  have HR : Hid (RB w v l) := hr
  obtain ⟨a, c, rfl, _, _⟩ := hr
  go_enter Try.func8, Try.ntmps8
  go_wp2_with fail
  refine (new w false).mono ?_
  rintro e w1 ⟨rfl, k1, b1⟩
  have K1 : RK w1 w.heap.size 0 0 (.slice none 0 0) 0 := k1
  have PU : Hid (Calls Try.prog 14 #[.pointer (some ⟨w.heap.size, 0, none⟩), .slice a l.length c] w1 (PushE w1 w.heap.size (0 == 2) (tx 0 0 [] ++ l) (.slice none 0 0))) := push w1 w.heap.size 0 0 (.slice none 0 0) _ [] l K1 (.inr (.inl ⟨rfl, by simp⟩)) (World.ownsRow_nil _ _ _ _) (fun _ => rfl) (rn_free (HR.out.keep b1)) hl
  have B1 : Hid (Below w.heap.size w w1) := b1
  clear k1 K1 b1
  go_wp2_with fail
  refine PU.out.mono ?_
  rintro e w2 ⟨mv, bsv, er, met, bs, h', r, p, s, held, hv, rfl, PO1⟩
  have hrd := PO1.rd
  rw [tx0] at hrd
  obtain ⟨f1, f2, f3, f4, f5, f6⟩ := hrd.frames rfl
  subst f1 f2
  have HE : Hid ((∃ r, Rd false l [] bs false r er) ∧ OB w.heap.size (fun g => w.heap.size ≤ g) w2 bsv bs ∧ Below w.heap.size w w2) := by
    refine ⟨⟨r, hrd⟩, PO1.ob.weak B1.out.size (fun g x => Nat.le_trans B1.out.size x.1), ?_⟩
    have fr := PO1.fr
    exact ⟨fr.os.trans B1.out.os, fr.tape.trans B1.out.tape, fr.output.trans B1.out.output, Nat.le_trans B1.out.size fr.size, fun k hk => (fr.block k (Nat.lt_of_lt_of_le hk B1.out.size) ⟨by omega, by simp [Value.ownBlock]⟩).trans (B1.out.block k hk)⟩
  have hsz : sz bs ≤ 16777216 := by omega
  have hbl : bs.length ≤ 16777216 := by
    have : ∀ bs : List (List UInt8), bs.length ≤ sz bs := fun bs => by
      induction bs with
      | nil => simp
      | cons b bs ih => rw [sz_cons, List.length_cons]; omega
    have := this bs
    omega
  obtain ⟨ba, bcap, rfl⟩ := PO1.ob.form
  obtain ⟨_, _, mf⟩ := PO1.om.form
  subst mf
  clear PO1 hrd f3 f4 f5 f6 PU B1
  go_wp2
  go_loop [8, 20] (fun t i => ∃ k : Nat, k ≤ bs.length ∧ i = .int .i64 k ∧ t = .int .i64 (sz (bs.take k) : Nat)) (fun _ i => bs.length - (intOf i).toNat)
  case atStart => exact ⟨0, Nat.zero_le _, rfl, by simp [sz]⟩
  case round =>
    obtain ⟨k, hk, rfl, rfl⟩ := hrel
    by_cases hlt : k < bs.length
    · obtain ⟨_, _, e1, _, hx⟩ := HE.out.2.1.rbs
      simp only [Value.slice.injEq] at e1
      obtain ⟨rfl, _, rfl⟩ := e1
      rcases hx with h | ⟨g, o, rfl, _, hx⟩
      · rw [h] at hlt; simp at hlt
      obtain ⟨u, hu, hur⟩ := hx k hlt
      obtain ⟨ua, uc, rfl, _, _⟩ := hur
      have HZ : Hid (sz (bs.take (k + 1)) = sz (bs.take k) + (4 + (bs.getD k []).length)) := sz_take bs k hlt
      have h5 := sz_take_le bs k
      have h6 := sz_take_le bs (k + 1)
      rw [HZ.out] at h6
      clear hx
      generalize sz (bs.take k) = z at *
      generalize (bs.getD k []).length = y at *
      go_wp2
      go_round
      case rel => exact ⟨k + 1, by omega, by go_num, by rw [HZ.out]; go_num⟩
      case measure => simp [intOf]; omega
    · obtain rfl : k = bs.length := by omega
      go_wp2
      go_ret3
      exact ⟨_, bs, er, rfl, HE.out⟩
end Go.Proofs.Ytmfeelkjbpjhdaa
