import Derived.Test.YtpembmfpgolniaaDoorH1
namespace Go.Proofs.YtpembmfpgolniaaDoor.Fm
open Go.RowKit Go.Proofs.YtpembmfpgolniaaDoor
/-- a list of lists that is read -/
def RBS (w : World) (v : Value) (bs : List (List UInt8)) : Prop :=
  ∃ a c, v = .slice a bs.length c ∧ bs.length ≤ c ∧ (bs = [] ∨ ∃ g o, a = some ⟨g, o, none⟩ ∧ g < w.heap.size ∧ ∀ i, i < bs.length → ∃ u, w.cell? ⟨g, o + i, none⟩ = some u ∧ RB w u (bs.getD i []))
theorem RBS.keep {w w' : World} {v : Value} {bs : List (List UInt8)} (h : RBS w v bs) (hb : Below w.heap.size w w') : RBS w' v bs := by
  obtain ⟨a, c, rfl, hle, h⟩ := h
  refine ⟨a, c, rfl, hle, ?_⟩
  rcases h with h | ⟨g, o, h1, h2, h3⟩
  · exact .inl h
  · refine .inr ⟨g, o, h1, Nat.lt_of_lt_of_le h2 hb.size, fun i hi => ?_⟩
    obtain ⟨u, h4, h5⟩ := h3 i hi
    exact ⟨u, (World.cell?_of_block (w := w) (hb.block g h2)).trans h4, h5.keep hb⟩
theorem drewN2 (w : World) (n m : Nat) : (w.drewN n).drewN m = w.drewN (n + m) := by simp [World.drewN, Nat.add_assoc]
theorem RBS.nil (w : World) (a : Option Addr) (c : Nat) : RBS w (.slice a 0 c) [] := ⟨a, c, rfl, Nat.zero_le _, .inl rfl⟩
theorem row_rbs {w : World} {B : Nat} {v : Value} {bs : List (List UInt8)} {us : List Value} (h : w.ownsRow B 22 1 v bs.length us) (hu : us.length = bs.length) (hr : ∀ i, i < bs.length → RB w (us.getD i undef) (bs.getD i [])) : RBS w v bs := by
  have h' := h
  rcases h.2 with ⟨rfl, h0⟩ | ⟨g, cap, cur, rfl, _, hg, hle, _⟩
  · have : bs = [] := List.length_eq_zero_iff.1 h0
    subst this; exact RBS.nil _ _ _
  · refine ⟨_, cap, rfl, hle, .inr ⟨g, 0, rfl, (Array.getElem?_eq_some_iff.1 hg).1, fun i hi => ⟨us.getD i undef, ?_, hr i hi⟩⟩⟩
    have := World.ownsRow.cellAt h' i (by omega)
    rw [Nat.zero_add, this]
    simp [List.getElem?_eq_getElem (show i < us.length by omega)]
theorem BK.rb {S : Nat → Prop} {w : World} {u : Value} {l : List UInt8} (h : BK S w u l) : RB w u l := by
  obtain ⟨g, _, rfl, h3⟩ := h
  exact rb_block h3 _ rfl
theorem OB.rbs {B : Nat} {S : Nat → Prop} {w : World} {v : Value} {bs : List (List UInt8)} (h : OB B S w v bs) : RBS w v bs := by
  obtain ⟨us, h1, h2, h3⟩ := h
  exact row_rbs h2 h1 (fun i hi => (h3 i hi).rb)
/-- a list of own lists -/
def OR (B : Nat) (w : World) (v : Value) (bs : List (List UInt8)) : Prop := ∃ us : List Value, us.length = bs.length ∧ w.ownsRow B 22 1 v bs.length us ∧ ∀ i, i < bs.length → OW B w (us.getD i undef) (bs.getD i [])
theorem OR.rbs {B : Nat} {w : World} {v : Value} {bs : List (List UInt8)} (h : OR B w v bs) : RBS w v bs := by
  obtain ⟨us, h1, h2, h3⟩ := h
  exact row_rbs h2 h1 (fun i hi => (h3 i hi).rb)
theorem OR.nil (B : Nat) (w : World) : OR B w (.slice none 0 0) [] := ⟨[], rfl, World.ownsRow_nil _ _ _ _, fun i h => by simp at h⟩
theorem OR.form {B : Nat} {w : World} {v : Value} {bs : List (List UInt8)} (h : OR B w v bs) : ∃ a c, v = .slice a bs.length c := by
  obtain ⟨a, c, e, _⟩ := h.rbs
  exact ⟨a, c, e⟩
theorem OR.keep {B : Nat} {w w' : World} {v : Value} {bs : List (List UInt8)} (h : OR B w v bs) (hb : ∀ k, B ≤ k → k < w.heap.size → w'.heap[k]? = w.heap[k]?) : OR B w' v bs := by
  obtain ⟨us, h1, h2, h3⟩ := h
  exact ⟨us, h1, ownsRow_keep h2 hb, fun i hi => ownsRow_keep (h3 i hi) hb⟩
/-- append(bodies, body) where the body is a list of its own -/
theorem append_own {ops : Array Oper} {rest : List Oper} {o : Oper} {a : Act} {Q : Exit → Act → World → Prop} {w : World} {B : Nat} {sv : Value} {bs : List (List UInt8)} (hgd : o.guard = none) (s x : Operand)
    (ho : o.op = .call { callee := .builtin .append, args := #[s, x], argTypes := #[42, 42] }) (hs : a.eval s = sv) (hown : OR B w sv bs) (b : Nat) (u : Value) (l : List UInt8) (hx : a.eval x = .slice (some ⟨b, 0, none⟩) 1 1)
    (hc : w.cell? ⟨b, 0, none⟩ = some u) (hu : OW B w u l) (hB : B ≤ w.heap.size) (hlim : bs.length < 1073741824)
    (h : ∀ v' w', OR B w' v' (bs ++ [l]) → Below B w w' → wpList Tryd.prog ops Q rest (a.put o.dst v') w') : wpList Tryd.prog ops Q (o :: rest) a w := by
  obtain ⟨i0, hi, hz0, hz1, hz2⟩ := info_parts infoB
  obtain ⟨us, h1, h2, h3⟩ := hown
  refine wpList_append_own w hgd s x 42 ho B 22 i0 _ 1 24 Tryd.underlying42 hi hz0 hz1 hz2 rfl (by omega) sv bs.length us hs h2 ⟨b, 0, none⟩ 1 1 [u] hx rfl (fun j y hy => ?_) (fun y hy => ?_) (by unfold maxLen; omega) (by omega) hB (fun v' w' k1 k2 _ => ?_)
  · match j, hy with
    | 0, hy => simp at hy; subst hy; simpa [Addr.add] using hc
  · simp at hy; subst hy
    obtain ⟨a, c, e⟩ := hu.form
    rw [e]; rfl
  · refine h v' w' ⟨us ++ [u], by simp [h1], by simpa using k1, fun i hi => ?_⟩ ((Below.refl B w).grown k2 hB (fun k hk => (World.ownsRow.lt h2 k hk).1))
    have kb : ∀ {u : Value} {l : List UInt8}, OW B w u l → OW B w' u l := fun h => ownsRow_keep2 (e2 := 22) h k2 (row_of h2) (by decide)
    rw [List.length_append, List.length_singleton] at hi
    by_cases hlt : i < bs.length
    · have := kb (h3 i hlt)
      rw [List.getD_eq_getElem?_getD, List.getD_eq_getElem?_getD, List.getElem?_append_left (by omega), List.getElem?_append_left (by omega), ← List.getD_eq_getElem?_getD, ← List.getD_eq_getElem?_getD]
      exact this
    · have hi' : i = bs.length := by omega
      subst hi'
      have := kb hu
      rw [List.getD_eq_getElem?_getD, List.getD_eq_getElem?_getD, List.getElem?_append_right (by omega), List.getElem?_append_right (by omega)]
      simpa [h1] using this
theorem _root_.Go.Proofs.YtpembmfpgolniaaDoor.RB.cut {w : World} {a : Option Addr} {c m n : Nat} {l : List UInt8} (h : RB w (.slice a l.length c) l) (h1 : m ≤ n) (h2 : n ≤ l.length) : RB w (.slice (if c = m then a else a.map (·.add m)) (n - m) (c - m)) ((l.drop m).take (n - m)) := by
  have hle := h.le
  have hd := (RN.of_rb h).drop (m := m) (by omega)
  have e : l.length - m = (l.drop m).length := by rw [List.length_drop]
  rw [e] at hd
  exact hd.rb.take (n - m) (by rw [List.length_drop]; omega)
end Go.Proofs.YtpembmfpgolniaaDoor.Fm
namespace Go.Proofs.YtpembmfpgolniaaDoor.Fm
open Go.RowKit Go.Proofs.YtpembmfpgolniaaDoor
/-- the bytes of frames -/
def sz (bs : List (List UInt8)) : Nat := (bs.map fun b => 4 + b.length).sum
theorem sz_snoc (bs : List (List UInt8)) (b : List UInt8) : sz (bs ++ [b]) = sz bs + (4 + b.length) := by simp [sz]
theorem sz_cons (bs : List (List UInt8)) (b : List UInt8) : sz (b :: bs) = 4 + b.length + sz bs := by simp [sz]
theorem Rd.frames {h : Bool} {l : List UInt8} {met bs : List (List UInt8)} {h' : Bool} {r : List UInt8} {e : Int} (x : Rd h l met bs h' r e) : h = false → met = [] ∧ h' = false ∧ l.length = sz bs + r.length ∧ r = l.drop (sz bs) ∧ (e = 0 ∨ e = 102) ∧ ∀ b ∈ bs, b.length ≤ 32768 := by
  induction x with
  | bad l hs => intro h; cases h
  | few l hs hl => intro h; cases h
  | hello l met bs h r e hs hl _ ih => intro h; cases h
  | num l hl => intro _; exact ⟨rfl, rfl, by simp [sz], by simp [sz], .inl rfl, by simp⟩
  | big l hl hn => intro _; exact ⟨rfl, rfl, by simp [sz], by simp [sz], .inr rfl, by simp⟩
  | part l hl hn hp => intro _; exact ⟨rfl, rfl, by simp [sz], by simp [sz], .inl rfl, by simp⟩
  | body l met bs h r e hl hn hp _ ih =>
    intro _
    obtain ⟨h1, h2, h3, h4, h5, h6⟩ := ih rfl
    have hlen : ((l.drop 4).take (nm l)).length = nm l := by rw [List.length_take, List.length_drop]; omega
    rw [List.length_drop] at h3
    refine ⟨h1, h2, by rw [sz_cons, hlen]; omega, ?_, h5, ?_⟩
    · rw [sz_cons, hlen, h4, List.drop_drop]
    · intro b hb
      rcases List.mem_cons.1 hb with rfl | hb
      · omega
      · exact h6 b hb
/-- what is left when reading goes on at a place -/
theorem drop_get (l : List UInt8) (k i : Nat) : byt (l.drop k) i = byt l (k + i) := byt_drop l k i
end Go.Proofs.YtpembmfpgolniaaDoor.Fm
namespace Go.Proofs.YtpembmfpgolniaaDoor.Fm
open Go.RowKit Go.Proofs.YtpembmfpgolniaaDoor
theorem ownsRow_mono {w : World} {B B' e size n : Nat} {v : Value} {xs : List Value} (h : w.ownsRow B e size v n xs) (hb : B' ≤ B) : w.ownsRow B' e size v n xs := by
  refine ⟨h.1, ?_⟩
  rcases h.2 with h1 | ⟨g, cap, cur, h1, h2, h3⟩
  · exact .inl h1
  · exact .inr ⟨g, cap, cur, h1, Nat.le_trans hb h2, h3⟩
theorem OB.weak {B B' : Nat} {S T : Nat → Prop} {w : World} {v : Value} {bs : List (List UInt8)} (h : OB B S w v bs) (hb : B' ≤ B) (hs : ∀ g, S g → T g) : OB B' T w v bs := by
  obtain ⟨us, h1, h2, h3⟩ := h
  exact ⟨us, h1, ownsRow_mono h2 hb, fun i hi => (h3 i hi).keep (fun _ _ _ _ => rfl) (fun g x _ => hs g x)⟩
theorem sz_take (bs : List (List UInt8)) (k : Nat) (h : k < bs.length) : sz (bs.take (k + 1)) = sz (bs.take k) + (4 + (bs.getD k []).length) := by
  rw [List.take_succ_eq_append_getElem h, sz_snoc]
  simp [List.getD, List.getElem?_eq_getElem h]
theorem sz_take_le (bs : List (List UInt8)) (k : Nat) : sz (bs.take k) ≤ sz bs := by
  induction bs generalizing k with
  | nil => simp
  | cons b bs ih =>
    cases k with
    | zero => simp [sz]
    | succ k => rw [List.take_succ_cons, sz_cons, sz_cons]; have := ih k; omega
theorem rn_free {w : World} {v : Value} {l : List UInt8} (h : RB w v l) : RN (fun g => (Value.slice none 0 0).ownBlock ≠ some g) w v l := by
  have := RN.of_rb h
  exact this.move (fun g _ => by simp [Value.ownBlock]) (fun _ _ _ _ => rfl)
theorem tx0 (l : List UInt8) : tx 0 0 [] ++ l = l := by simp [tx]
set_option maxHeartbeats 2000000 in
theorem splitP (v : Value) (l : List UInt8) (hl : l.length ≤ 16777216) (w : World) (hr : RB w v l) :
    Calls Tryd.prog 22 #[v] w fun e w' => ∃ bv bs er, e = .returned (.tuple #[bv, .int .i64 (sz bs : Nat), .int .i64 er]) ∧ (∃ r, Rd false l [] bs false r er) ∧ OB w.heap.size (fun g => w.heap.size ≤ g) w' bv bs ∧ Below w.heap.size w w' := by
  have HR : Hid (RB w v l) := hr
  obtain ⟨a, c, rfl, _, _⟩ := hr
  go_enter Tryd.func22, Tryd.ntmps22
  go_wp2_with fail
  refine (new w false).mono ?_
  rintro e w1 ⟨rfl, k1, b1⟩
  have K1 : RK w1 w.heap.size 0 0 (.slice none 0 0) 0 := k1
  have PU : Hid (Calls Tryd.prog 28 #[.pointer (some ⟨w.heap.size, 0, none⟩), .slice a l.length c] w1 (PushE w1 w.heap.size (0 == 2) (tx 0 0 [] ++ l) (.slice none 0 0))) := push w1 w.heap.size 0 0 (.slice none 0 0) _ [] l K1 (.inr (.inl ⟨rfl, by simp⟩)) (World.ownsRow_nil _ _ _ _) (fun _ => rfl) (rn_free (HR.out.keep b1)) hl
  have B1 : Hid (Below w.heap.size w w1) := b1
  clear k1 K1 b1
  go_wp2_with fail
  refine PU.out.mono ?_
  rintro e w2 ⟨mv, bsv, er, met, bs, h', r, p, s, held, hv, rfl, PO1⟩
  have hrd := PO1.rd
  rw [tx0] at hrd
  obtain ⟨f1, f2, f3, f4, f5, f6⟩ := hrd.frames rfl
  subst f1 f2
  have HE : Hid ((∃ r, Rd false l [] bs false r er) ∧ OB w.heap.size (fun g => w.heap.size ≤ g) w2 bsv bs ∧ Below w.heap.size w w2) := by
    refine ⟨⟨r, hrd⟩, PO1.ob.weak B1.out.size (fun g x => Nat.le_trans B1.out.size x.1), ?_⟩
    have fr := PO1.fr
    exact ⟨fr.os.trans B1.out.os, fr.tape.trans B1.out.tape, fr.output.trans B1.out.output, Nat.le_trans B1.out.size fr.size, fun k hk => (fr.block k (Nat.lt_of_lt_of_le hk B1.out.size) ⟨by omega, by simp [Value.ownBlock]⟩).trans (B1.out.block k hk)⟩
  have hsz : sz bs ≤ 16777216 := by omega
  have hbl : bs.length ≤ 16777216 := by
    have : ∀ bs : List (List UInt8), bs.length ≤ sz bs := fun bs => by
      induction bs with
      | nil => simp
      | cons b bs ih => rw [sz_cons, List.length_cons]; omega
    have := this bs
    omega
  obtain ⟨ba, bcap, rfl⟩ := PO1.ob.form
  obtain ⟨_, _, mf⟩ := PO1.om.form
  subst mf
  clear PO1 hrd f3 f4 f5 f6 PU B1
  go_wp2
  go_loop [8, 20] (fun t i => ∃ k : Nat, k ≤ bs.length ∧ i = .int .i64 k ∧ t = .int .i64 (sz (bs.take k) : Nat)) (fun _ i => bs.length - (intOf i).toNat)
  case atStart => exact ⟨0, Nat.zero_le _, rfl, by simp [sz]⟩
  case round =>
    obtain ⟨k, hk, rfl, rfl⟩ := hrel
    by_cases hlt : k < bs.length
    · obtain ⟨_, _, e1, _, hx⟩ := HE.out.2.1.rbs
      simp only [Value.slice.injEq] at e1
      obtain ⟨rfl, _, rfl⟩ := e1
      rcases hx with h | ⟨g, o, rfl, _, hx⟩
      · rw [h] at hlt; simp at hlt
      obtain ⟨u, hu, hur⟩ := hx k hlt
      obtain ⟨ua, uc, rfl, _, _⟩ := hur
      have HZ : Hid (sz (bs.take (k + 1)) = sz (bs.take k) + (4 + (bs.getD k []).length)) := sz_take bs k hlt
      have h5 := sz_take_le bs k
      have h6 := sz_take_le bs (k + 1)
      rw [HZ.out] at h6
      clear hx
      generalize sz (bs.take k) = z at *
      generalize (bs.getD k []).length = y at *
      go_wp2
      go_round
      case rel => exact ⟨k + 1, by omega, by go_num, by rw [HZ.out]; go_num⟩
      case measure => simp [intOf]; omega
    · obtain rfl : k = bs.length := by omega
      go_wp2
      go_ret3
      exact ⟨_, bs, er, rfl, HE.out⟩
end Go.Proofs.YtpembmfpgolniaaDoor.Fm
