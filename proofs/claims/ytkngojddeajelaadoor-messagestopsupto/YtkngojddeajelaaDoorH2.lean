import Derived.Test.YtkngojddeajelaaDoorH1
namespace Go.Proofs.YtkngojddeajelaaDoor.Fm
open Go.RowKit Go.Proofs.YtkngojddeajelaaDoor
/-- a list of lists that is read -/
def RBS (w : World) (v : Value) (bs : List (List UInt8)) : Prop :=
  ∃ a c, v = .slice a bs.length c ∧ bs.length ≤ c ∧ (bs = [] ∨ ∃ g o, a = some ⟨g, o, none⟩ ∧ g < w.heap.size ∧ ∀ i, i < bs.length → ∃ u, w.cell? ⟨g, o + i, none⟩ = some u ∧ RB w u (bs.getD i []))
theorem RBS.keep {w w' : World} {v : Value} {bs : List (List UInt8)} (h : RBS w v bs) (hb : Below w.heap.size w w') : RBS w' v bs := by
  obtain ⟨a, c, rfl, hle, h⟩ := h
  refine ⟨a, c, rfl, hle, ?_⟩
  rcases h with h | ⟨g, o, h1, h2, h3⟩
  · exact .inl h
  · refine .inr ⟨g, o, h1, Nat.lt_of_lt_of_le h2 hb.size, fun i hi => ?_⟩
    obtain ⟨u, h4, h5⟩ := h3 i hi
    exact ⟨u, (World.cell?_of_block (w := w) (hb.block g h2)).trans h4, h5.keep hb⟩
theorem drewN2 (w : World) (n m : Nat) : (w.drewN n).drewN m = w.drewN (n + m) := by simp [World.drewN, Nat.add_assoc]
theorem RBS.nil (w : World) (a : Option Addr) (c : Nat) : RBS w (.slice a 0 c) [] := ⟨a, c, rfl, Nat.zero_le _, .inl rfl⟩
theorem row_rbs {w : World} {B : Nat} {v : Value} {bs : List (List UInt8)} {us : List Value} (h : w.ownsRow B 22 1 v bs.length us) (hu : us.length = bs.length) (hr : ∀ i, i < bs.length → RB w (us.getD i undef) (bs.getD i [])) : RBS w v bs := by
  have h' := h
  rcases h.2 with ⟨rfl, h0⟩ | ⟨g, cap, cur, rfl, _, hg, hle, _⟩
  · have : bs = [] := List.length_eq_zero_iff.1 h0
    subst this; exact RBS.nil _ _ _
  · refine ⟨_, cap, rfl, hle, .inr ⟨g, 0, rfl, (Array.getElem?_eq_some_iff.1 hg).1, fun i hi => ⟨us.getD i undef, ?_, hr i hi⟩⟩⟩
    have := World.ownsRow.cellAt h' i (by omega)
    rw [Nat.zero_add, this]
    simp [List.getElem?_eq_getElem (show i < us.length by omega)]
theorem BK.rb {S : Nat → Prop} {w : World} {u : Value} {l : List UInt8} (h : BK S w u l) : RB w u l := by
  obtain ⟨g, _, rfl, h3⟩ := h
  exact rb_block h3 _ rfl
theorem OB.rbs {B : Nat} {S : Nat → Prop} {w : World} {v : Value} {bs : List (List UInt8)} (h : OB B S w v bs) : RBS w v bs := by
  obtain ⟨us, h1, h2, h3⟩ := h
  exact row_rbs h2 h1 (fun i hi => (h3 i hi).rb)
/-- a list of own lists -/
def OR (B : Nat) (w : World) (v : Value) (bs : List (List UInt8)) : Prop := ∃ us : List Value, us.length = bs.length ∧ w.ownsRow B 22 1 v bs.length us ∧ ∀ i, i < bs.length → OW B w (us.getD i undef) (bs.getD i [])
theorem OR.rbs {B : Nat} {w : World} {v : Value} {bs : List (List UInt8)} (h : OR B w v bs) : RBS w v bs := by
  obtain ⟨us, h1, h2, h3⟩ := h
  exact row_rbs h2 h1 (fun i hi => (h3 i hi).rb)
theorem OR.nil (B : Nat) (w : World) : OR B w (.slice none 0 0) [] := ⟨[], rfl, World.ownsRow_nil _ _ _ _, fun i h => by simp at h⟩
theorem OR.form {B : Nat} {w : World} {v : Value} {bs : List (List UInt8)} (h : OR B w v bs) : ∃ a c, v = .slice a bs.length c := by
  obtain ⟨a, c, e, _⟩ := h.rbs
  exact ⟨a, c, e⟩
theorem OR.keep {B : Nat} {w w' : World} {v : Value} {bs : List (List UInt8)} (h : OR B w v bs) (hb : ∀ k, B ≤ k → k < w.heap.size → w'.heap[k]? = w.heap[k]?) : OR B w' v bs := by
  obtain ⟨us, h1, h2, h3⟩ := h
  exact ⟨us, h1, ownsRow_keep h2 hb, fun i hi => ownsRow_keep (h3 i hi) hb⟩
/-- append(bodies, body) where the body is a list of its own -/
theorem append_own {ops : Array Oper} {rest : List Oper} {o : Oper} {a : Act} {Q : Exit → Act → World → Prop} {w : World} {B : Nat} {sv : Value} {bs : List (List UInt8)} (hgd : o.guard = none) (s x : Operand)
    (ho : o.op = .call { callee := .builtin .append, args := #[s, x], argTypes := #[76, 76] }) (hs : a.eval s = sv) (hown : OR B w sv bs) (b : Nat) (u : Value) (l : List UInt8) (hx : a.eval x = .slice (some ⟨b, 0, none⟩) 1 1)
    (hc : w.cell? ⟨b, 0, none⟩ = some u) (hu : OW B w u l) (hB : B ≤ w.heap.size) (hlim : bs.length < 1073741824)
    (h : ∀ v' w', OR B w' v' (bs ++ [l]) → Below B w w' → wpList Tryd.prog ops Q rest (a.put o.dst v') w') : wpList Tryd.prog ops Q (o :: rest) a w := by
  obtain ⟨i0, hi, hz0, hz1, hz2⟩ := info_parts infoB
  obtain ⟨us, h1, h2, h3⟩ := hown
  refine wpList_append_own w hgd s x 76 ho B 22 i0 _ 1 24 Tryd.underlying76 hi hz0 hz1 hz2 rfl (by omega) sv bs.length us hs h2 ⟨b, 0, none⟩ 1 1 [u] hx rfl (fun j y hy => ?_) (fun y hy => ?_) (by unfold maxLen; omega) (by omega) hB (fun v' w' k1 k2 _ => ?_)
  · match j, hy with
    | 0, hy => simp at hy; subst hy; simpa [Addr.add] using hc
  · simp at hy; subst hy
    obtain ⟨a, c, e⟩ := hu.form
    rw [e]; rfl
  · refine h v' w' ⟨us ++ [u], by simp [h1], by simpa using k1, fun i hi => ?_⟩ ((Below.refl B w).grown k2 hB (fun k hk => (World.ownsRow.lt h2 k hk).1))
    have kb : ∀ {u : Value} {l : List UInt8}, OW B w u l → OW B w' u l := fun h => ownsRow_keep2 (e2 := 22) h k2 (row_of h2) (by decide)
    rw [List.length_append, List.length_singleton] at hi
    by_cases hlt : i < bs.length
    · have := kb (h3 i hlt)
      rw [List.getD_eq_getElem?_getD, List.getD_eq_getElem?_getD, List.getElem?_append_left (by omega), List.getElem?_append_left (by omega), ← List.getD_eq_getElem?_getD, ← List.getD_eq_getElem?_getD]
      exact this
    · have hi' : i = bs.length := by omega
      subst hi'
      have := kb hu
      rw [List.getD_eq_getElem?_getD, List.getD_eq_getElem?_getD, List.getElem?_append_right (by omega), List.getElem?_append_right (by omega)]
      simpa [h1] using this
theorem _root_.Go.Proofs.YtkngojddeajelaaDoor.RB.cut {w : World} {a : Option Addr} {c m n : Nat} {l : List UInt8} (h : RB w (.slice a l.length c) l) (h1 : m ≤ n) (h2 : n ≤ l.length) : RB w (.slice (if c = m then a else a.map (·.add m)) (n - m) (c - m)) ((l.drop m).take (n - m)) := by
  have hle := h.le
  have hd := (RN.of_rb h).drop (m := m) (by omega)
  have e : l.length - m = (l.drop m).length := by rw [List.length_drop]
  rw [e] at hd
  exact hd.rb.take (n - m) (by rw [List.length_drop]; omega)
set_option maxHeartbeats 1000000 in
theorem part (v : Value) (l : List UInt8) (m n : Nat) (h1 : m ≤ n) (h2 : n ≤ l.length) (h3 : l.length ≤ 140737488351232) (w : World) (hr : RB w v l) :
    Calls Tryd.prog 65 #[v, .int .i64 m, .int .i64 n] w fun e w' => ∃ u, e = .returned u ∧ OW w.heap.size w' u ((l.drop m).take (n - m)) ∧ Below w.heap.size w w' := by
  have hr' := hr
  obtain ⟨a, c, rfl, hle, _⟩ := hr
  have RC := hr'.cut h1 h2
  have e1 : (m : Int) ≤ n := by omega
  have e2 : (n : Int) ≤ c := by omega
  have hlen : ((l.drop m).take (n - m)).length = n - m := by rw [List.length_take, List.length_drop]; omega
  have HL : Hid (([] : List UInt8).length + ((l.drop m).take (n - m)).length ≤ 140737488351232) := by rw [hlen]; unfold Hid; simp; omega
  have HN : Hid (OW w.heap.size w (.slice none 0 0) []) := World.ownsRow_nil _ _ _ _
  clear hlen hr'
  generalize (l.drop m).take (n - m) = T at *
  generalize l.length = L at *
  by_cases hcm : c = m
  · rw [if_pos hcm, show n - m = 0 by omega, show c - m = 0 by omega] at RC
    have HC : Hid (RB w (.slice a 0 0) T) := RC
    clear RC
    have hnm : n = m := by omega
    subst hcm hnm
    go_enter Tryd.func65, Tryd.ntmps65
    go_wp2_with (at_builtin; refine append_bytes rfl _ _ rfl rfl HN.out rfl HC.out (Nat.le_refl _) HL.out ?_; intro v' w1 k1 k2)
    go_ret
    exact ⟨_, rfl, k1, k2⟩
  · rw [if_neg hcm] at RC
    have HC : Hid (RB w (.slice (a.map (·.add m)) (n - m) (c - m)) T) := RC
    clear RC
    go_enter Tryd.func65, Tryd.ntmps65
    go_wp2_with (at_builtin; refine append_bytes rfl _ _ rfl rfl HN.out rfl HC.out (Nat.le_refl _) HL.out ?_; intro v' w1 k1 k2)
    go_ret
    exact ⟨_, rfl, k1, k2⟩
end Go.Proofs.YtkngojddeajelaaDoor.Fm
namespace Go.Proofs.YtkngojddeajelaaDoor.Fm
open Go.RowKit Go.Proofs.YtkngojddeajelaaDoor
/-- the bytes of frames -/
def sz (bs : List (List UInt8)) : Nat := (bs.map fun b => 4 + b.length).sum
theorem sz_snoc (bs : List (List UInt8)) (b : List UInt8) : sz (bs ++ [b]) = sz bs + (4 + b.length) := by simp [sz]
theorem sz_cons (bs : List (List UInt8)) (b : List UInt8) : sz (b :: bs) = 4 + b.length + sz bs := by simp [sz]
theorem Rd.frames {h : Bool} {l : List UInt8} {met bs : List (List UInt8)} {h' : Bool} {r : List UInt8} {e : Int} (x : Rd h l met bs h' r e) : h = false → met = [] ∧ h' = false ∧ l.length = sz bs + r.length ∧ r = l.drop (sz bs) ∧ (e = 0 ∨ e = 102) ∧ ∀ b ∈ bs, b.length ≤ 32768 := by
  induction x with
  | bad l hs => intro h; cases h
  | few l hs hl => intro h; cases h
  | hello l met bs h r e hs hl _ ih => intro h; cases h
  | num l hl => intro _; exact ⟨rfl, rfl, by simp [sz], by simp [sz], .inl rfl, by simp⟩
  | big l hl hn => intro _; exact ⟨rfl, rfl, by simp [sz], by simp [sz], .inr rfl, by simp⟩
  | part l hl hn hp => intro _; exact ⟨rfl, rfl, by simp [sz], by simp [sz], .inl rfl, by simp⟩
  | body l met bs h r e hl hn hp _ ih =>
    intro _
    obtain ⟨h1, h2, h3, h4, h5, h6⟩ := ih rfl
    have hlen : ((l.drop 4).take (nm l)).length = nm l := by rw [List.length_take, List.length_drop]; omega
    rw [List.length_drop] at h3
    refine ⟨h1, h2, by rw [sz_cons, hlen]; omega, ?_, h5, ?_⟩
    · rw [sz_cons, hlen, h4, List.drop_drop]
    · intro b hb
      rcases List.mem_cons.1 hb with rfl | hb
      · omega
      · exact h6 b hb
/-- what is left when reading goes on at a place -/
theorem drop_get (l : List UInt8) (k i : Nat) : byt (l.drop k) i = byt l (k + i) := byt_drop l k i
set_option maxHeartbeats 4000000 in
theorem split (v : Value) (l : List UInt8) (f0 : Nat) (hf0 : f0 ≤ l.length) (hl : l.length ≤ 33554432) (w : World) (hr : RB w v l) :
    Calls Tryd.prog 46 #[v, .int .i64 f0] w fun e w' => ∃ bv bs k er, e = .returned (.tuple #[bv, .int .i64 (k : Nat), .int .i64 er]) ∧ Rd false (l.drop f0) [] bs false (l.drop k) er ∧ k = f0 + sz bs ∧ k ≤ l.length ∧ OR w.heap.size w' bv bs ∧ Below w.heap.size w w' := by
  have HR : Hid (RB w v l) := hr
  obtain ⟨a, c, rfl, _, hr⟩ := hr
  have HC : Hid (∀ k, k < l.length → ∃ b o, a = some ⟨b, o, none⟩ ∧ b < w.heap.size ∧ ∀ wr, Below w.heap.size w wr → ∀ j, j < l.length → wr.cell? ⟨b, o + j, none⟩ = some (.int .u8 ((byt l j).toNat : Int))) := by
    intro k hk
    rcases hr with rfl | ⟨b, o, rfl, hb, hc⟩
    · simp at hk
    · exact ⟨b, o, rfl, hb, fun wr hw j hj => (hw.cell (p := ⟨b, o + j, none⟩) hb).trans (hc j hj)⟩
  clear hr
  go_enter Tryd.func46, Tryd.ntmps46
  go_wp2
  go_loopw [7, 8] (fun bv t wr => ∃ (bs : List (List UInt8)) (k : Nat) (ba : Option Addr) (bcap : Nat), bv = .slice ba bs.length bcap ∧ t = .int .i64 k ∧ k ≤ l.length ∧ Hid (k = f0 + sz bs ∧ (∀ bs' r' e', Rd false (l.drop k) [] bs' false r' e' → Rd false (l.drop f0) [] (bs ++ bs') false r' e') ∧ OR w.heap.size wr (.slice ba bs.length bcap) bs ∧ Below w.heap.size w wr ∧ 4 * bs.length ≤ k)) (fun _ t _ => l.length - (intOf t).toNat)
  case atStart => exact ⟨[], f0, none, 0, rfl, rfl, hf0, by simp [sz], fun _ _ _ h => h, OR.nil _ _, Below.refl _ _, by simp⟩
  case round =>
    obtain ⟨bs, k, ba, bcap, rfl, rfl, hk, H⟩ := hrel
    by_cases h4 : k + 4 ≤ l.length
    · obtain ⟨b, o, rfl, hb, hcc⟩ := HC.out k (by omega)
      have hc := hcc wr H.out.2.2.2.1
      have q0 := hc k (by omega)
      have q1 := hc (k + 1) (by omega)
      have q2 := hc (k + 2) (by omega)
      have q3 := hc (k + 3) (by omega)
      have e0 := drop_get l k 0
      have e1 := drop_get l k 1
      have e2 := drop_get l k 2
      have e3 := drop_get l k 3
      have hnm : nm (l.drop k) = (((byt l k).toNat * 256 + (byt l (k + 1)).toNat) * 256 + (byt l (k + 2)).toNat) * 256 + (byt l (k + 3)).toNat := by unfold nm; rw [e0, e1, e2, e3]; rfl
      have hdl : (l.drop k).length = l.length - k := List.length_drop
      have b0 := UInt8.toNat_lt (byt l k)
      have b1 := UInt8.toNat_lt (byt l (k + 1))
      have b2 := UInt8.toNat_lt (byt l (k + 2))
      have b3 := UInt8.toNat_lt (byt l (k + 3))
      have HNM : Hid (nm (l.drop k) = (((byt l k).toNat * 256 + (byt l (k + 1)).toNat) * 256 + (byt l (k + 2)).toNat) * 256 + (byt l (k + 3)).toNat ∧ (l.drop k).length = l.length - k) := ⟨hnm, hdl⟩
      clear hcc hc e0 e1 e2 e3 hnm hdl
      generalize (byt l k).toNat = x0 at *
      generalize (byt l (k + 1)).toNat = x1 at *
      generalize (byt l (k + 2)).toNat = x2 at *
      generalize (byt l (k + 3)).toNat = x3 at *
      have a0 : (0 : Int) ≤ (k : Int) := by omega
      have a1 : (k : Int) + 4 ≤ (l.length : Int) := by omega
      obtain ⟨nn, hnn⟩ : ∃ nn, ((x0 * 256 + x1) * 256 + x2) * 256 + x3 = nn := ⟨_, rfl⟩
      have hN : (((x0 : Int) * 256 + x1) * 256 + x2) * 256 + x3 = (nn : Int) := by omega
      have hnl : nn < 4294967296 := by omega
      have HN2 : Hid (nm (l.drop k) = nn ∧ (l.drop k).length = l.length - k) := ⟨HNM.out.1.trans hnn, HNM.out.2⟩
      clear hnn HNM
      go_wp2
      go_quiet (fail)
      rename_i nq
      have H2 : Hid (k = f0 + sz bs ∧ (∀ bs' r' e', Rd false (l.drop k) [] bs' false r' e' → Rd false (l.drop f0) [] (bs ++ bs') false r' e') ∧ OR w.heap.size (wr.drewN nq) (.slice ba bs.length bcap) bs ∧ Below w.heap.size w (wr.drewN nq) ∧ 4 * bs.length ≤ k) := ⟨H.out.1, H.out.2.1, H.out.2.2.1.keep (fun _ _ _ => rfl), belowN H.out.2.2.2.1 _, H.out.2.2.2.2⟩
      clear H q0 q1 q2 q3 hN b0 b1 b2 b3
      generalize wr.drewN nq = wq at *
      by_cases hbig : 32768 < nn
      · have R1 := H2.out.2.1 _ _ _ (Rd.big (l.drop k) (by have := HN2.out.2; omega) (by rw [HN2.out.1]; exact hbig))
        rw [List.append_nil] at R1
        have HE : Hid (Rd false (l.drop f0) [] bs false (l.drop k) 102 ∧ k = f0 + sz bs ∧ k ≤ l.length ∧ OR w.heap.size wq (.slice ba bs.length bcap) bs ∧ Below w.heap.size w wq) := ⟨R1, H2.out.1, hk, H2.out.2.2.1, H2.out.2.2.2.1⟩
        clear R1
        go_wp2
        go_ret3
        exact ⟨_, bs, k, 102, rfl, HE.out⟩
      · by_cases hpt : l.length < k + 4 + nn
        · have R1 := H2.out.2.1 _ _ _ (Rd.part (l.drop k) (by have := HN2.out.2; omega) (by rw [HN2.out.1]; omega) (by rw [HN2.out.1]; have := HN2.out.2; omega))
          rw [List.append_nil] at R1
          have HE : Hid (Rd false (l.drop f0) [] bs false (l.drop k) 0 ∧ k = f0 + sz bs ∧ k ≤ l.length ∧ OR w.heap.size wq (.slice ba bs.length bcap) bs ∧ Below w.heap.size w wq) := ⟨R1, H2.out.1, hk, H2.out.2.2.1, H2.out.2.2.2.1⟩
          clear R1
          go_wp2
          go_ret3
          exact ⟨_, bs, k, 0, rfl, HE.out⟩
        · have PT : Hid (Calls Tryd.prog 65 #[.slice (some ⟨b, o, none⟩) l.length c, .int .i64 ((k : Int) + 4), .int .i64 ((k : Int) + 4 + (nn : Int))] wq fun e w' => ∃ u, e = .returned u ∧ OW wq.heap.size w' u ((l.drop (k + 4)).take nn) ∧ Below wq.heap.size wq w') := by
            have := part (.slice (some ⟨b, o, none⟩) l.length c) l (k + 4) (k + 4 + nn) (by omega) (by omega) (by omega) wq (HR.out.keep H2.out.2.2.2.1)
            rw [show k + 4 + nn - (k + 4) = nn by omega] at this
            simp only [Int.natCast_add, Int.cast_ofNat_Int] at this
            exact this
          have hlen : ((l.drop (k + 4)).take nn).length = nn := by rw [List.length_take, List.length_drop]; omega
          have RDX : Hid (∀ bs' r' e', Rd false (l.drop (k + 4 + nn)) [] bs' false r' e' → Rd false (l.drop f0) [] ((bs ++ [(l.drop (k + 4)).take nn]) ++ bs') false r' e') := fun bs' r' e' h => by
            rw [List.append_assoc]
            refine H2.out.2.1 _ _ _ ?_
            have := Rd.body (l.drop k) [] bs' false r' e' (by have := HN2.out.2; omega) (by rw [HN2.out.1]; omega) (by rw [HN2.out.1]; have := HN2.out.2; omega) (by rw [HN2.out.1, List.drop_drop, ← Nat.add_assoc]; exact h)
            rw [HN2.out.1, List.drop_drop] at this
            exact this
          have HS : Hid (sz (bs ++ [(l.drop (k + 4)).take nn]) = sz bs + (4 + nn)) := by rw [sz_snoc, hlen]; exact rfl
          clear hlen
          generalize (l.drop (k + 4)).take nn = T at *
          go_wp2_with fail
          refine PT.out.mono ?_
          rintro e w2 ⟨u, rfl, o2, b2⟩
          have ho2 : OW w.heap.size w2 u T := o2.mono H2.out.2.2.2.1.size
          have B2 : Below w.heap.size w w2 := H2.out.2.2.2.1.trans (b2.mono H2.out.2.2.2.1.size)
          have OR2 : OR w.heap.size w2 (.slice ba bs.length bcap) bs := H2.out.2.2.1.keep (fun k _ hl => b2.block k hl)
          obtain ⟨ua, un, uc, rfl⟩ := ho2.form3
          have A3 : Hid (OR w.heap.size (w2.alloc (.cells #[.slice ua un uc] 22)) (.slice ba bs.length bcap) bs ∧ OW w.heap.size (w2.alloc (.cells #[.slice ua un uc] 22)) (.slice ua un uc) T ∧ Below w.heap.size w (w2.alloc (.cells #[.slice ua un uc] 22))) := ⟨OR2.keep (fun k _ hl => heapOld _ _ _ hl), ho2.alloc _, B2.alloc B2.size _⟩
          clear o2 b2 ho2 B2 OR2 PT
          have hbl : bs.length < 1073741824 := by have := H2.out.2.2.2.2; omega
          go_wp2_with (at_builtin; refine append_own rfl _ _ rfl rfl A3.out.1 w2.heap.size _ T rfl (by go_simp) A3.out.2.1 A3.out.2.2.size hbl ?_; intro v' w5 k1 k2; have A5 : Hid (OR w.heap.size w5 v' (bs ++ [T]) ∧ Below w.heap.size w w5) := ⟨k1, A3.out.2.2.trans k2⟩; clear k1 k2)
          obtain ⟨va, vc, hv⟩ := A5.out.1.form
          go_roundw
          case rel => exact ⟨bs ++ [T], k + 4 + nn, va, vc, hv, by go_num, by omega, by rw [HS.out]; have := H2.out.1; omega, RDX.out, hv ▸ A5.out.1, A5.out.2, by have := H2.out.2.2.2.2; simp; omega⟩
          case measure => simp [intOf]; omega
    · have R1 := H.out.2.1 _ _ _ (Rd.num (l.drop k) (by rw [List.length_drop]; omega))
      rw [List.append_nil] at R1
      have HE : Hid (Rd false (l.drop f0) [] bs false (l.drop k) 0 ∧ k = f0 + sz bs ∧ k ≤ l.length ∧ OR w.heap.size wr (.slice ba bs.length bcap) bs ∧ Below w.heap.size w wr) := ⟨R1, H.out.1, hk, H.out.2.2.1, H.out.2.2.2.1⟩
      clear R1 H
      go_wp2
      go_ret3
      exact ⟨_, bs, k, 0, rfl, HE.out⟩
set_option maxHeartbeats 1000000 in
theorem refSplit (v : Value) (l : List UInt8) (hl : l.length ≤ 33554432) (w : World) (hr : RB w v l) :
    Calls Tryd.prog 41 #[v] w fun e w' => ∃ bv bs k er, e = .returned (.tuple #[bv, .int .i64 (k : Nat), .int .i64 er]) ∧ Rd false l [] bs false (l.drop k) er ∧ k = sz bs ∧ OR w.heap.size w' bv bs ∧ Below w.heap.size w w' := by
  have SP := split v l 0 (Nat.zero_le _) hl w hr
  obtain ⟨a, c, rfl, _, _⟩ := hr
  go_enter Tryd.func41, Tryd.ntmps41
  go_wp2_with fail
  refine SP.mono ?_
  rintro e w1 ⟨bv, bs, k, er, rfl, h1, h2, h3, h4, h5⟩
  rw [List.drop_zero] at h1
  have HE : Hid (Rd false l [] bs false (l.drop k) er ∧ k = sz bs ∧ OR w.heap.size w1 bv bs ∧ Below w.heap.size w w1) := ⟨h1, by omega, h4, h5⟩
  clear h1 h2 h3 h4 h5 SP
  go_wp2
  go_ret3
  exact ⟨_, bs, k, er, rfl, HE.out⟩
end Go.Proofs.YtkngojddeajelaaDoor.Fm
namespace Go.Proofs.YtkngojddeajelaaDoor.Fm
open Go.RowKit Go.Proofs.YtkngojddeajelaaDoor
theorem ownsRow_mono {w : World} {B B' e size n : Nat} {v : Value} {xs : List Value} (h : w.ownsRow B e size v n xs) (hb : B' ≤ B) : w.ownsRow B' e size v n xs := by
  refine ⟨h.1, ?_⟩
  rcases h.2 with h1 | ⟨g, cap, cur, h1, h2, h3⟩
  · exact .inl h1
  · exact .inr ⟨g, cap, cur, h1, Nat.le_trans hb h2, h3⟩
theorem OB.weak {B B' : Nat} {S T : Nat → Prop} {w : World} {v : Value} {bs : List (List UInt8)} (h : OB B S w v bs) (hb : B' ≤ B) (hs : ∀ g, S g → T g) : OB B' T w v bs := by
  obtain ⟨us, h1, h2, h3⟩ := h
  exact ⟨us, h1, ownsRow_mono h2 hb, fun i hi => (h3 i hi).keep (fun _ _ _ _ => rfl) (fun g x _ => hs g x)⟩
theorem sz_take (bs : List (List UInt8)) (k : Nat) (h : k < bs.length) : sz (bs.take (k + 1)) = sz (bs.take k) + (4 + (bs.getD k []).length) := by
  rw [List.take_succ_eq_append_getElem h, sz_snoc]
  simp [List.getD, List.getElem?_eq_getElem h]
theorem sz_take_le (bs : List (List UInt8)) (k : Nat) : sz (bs.take k) ≤ sz bs := by
  induction bs generalizing k with
  | nil => simp
  | cons b bs ih =>
    cases k with
    | zero => simp [sz]
    | succ k => rw [List.take_succ_cons, sz_cons, sz_cons]; have := ih k; omega
theorem rn_free {w : World} {v : Value} {l : List UInt8} (h : RB w v l) : RN (fun g => (Value.slice none 0 0).ownBlock ≠ some g) w v l := by
  have := RN.of_rb h
  exact this.move (fun g _ => by simp [Value.ownBlock]) (fun _ _ _ _ => rfl)
theorem tx0 (l : List UInt8) : tx 0 0 [] ++ l = l := by simp [tx]
set_option maxHeartbeats 2000000 in
theorem splitP (v : Value) (l : List UInt8) (hl : l.length ≤ 16777216) (w : World) (hr : RB w v l) :
    Calls Tryd.prog 40 #[v] w fun e w' => ∃ bv bs er, e = .returned (.tuple #[bv, .int .i64 (sz bs : Nat), .int .i64 er]) ∧ (∃ r, Rd false l [] bs false r er) ∧ OB w.heap.size (fun g => w.heap.size ≤ g) w' bv bs ∧ Below w.heap.size w w' := by
  have HR : Hid (RB w v l) := hr
  obtain ⟨a, c, rfl, _, _⟩ := hr
  go_enter Tryd.func40, Tryd.ntmps40
  go_wp2_with fail
  refine (new w false).mono ?_
  rintro e w1 ⟨rfl, k1, b1⟩
  have K1 : RK w1 w.heap.size 0 0 (.slice none 0 0) 0 := k1
  have PU : Hid (Calls Tryd.prog 45 #[.pointer (some ⟨w.heap.size, 0, none⟩), .slice a l.length c] w1 (PushE w1 w.heap.size (0 == 2) (tx 0 0 [] ++ l) (.slice none 0 0))) := push w1 w.heap.size 0 0 (.slice none 0 0) _ [] l K1 (.inr (.inl ⟨rfl, by simp⟩)) (World.ownsRow_nil _ _ _ _) (fun _ => rfl) (rn_free (HR.out.keep b1)) hl
  have B1 : Hid (Below w.heap.size w w1) := b1
  clear k1 K1 b1
  go_wp2_with fail
  refine PU.out.mono ?_
  rintro e w2 ⟨mv, bsv, er, met, bs, h', r, p, s, held, hv, rfl, PO1⟩
  have hrd := PO1.rd
  rw [tx0] at hrd
  obtain ⟨f1, f2, f3, f4, f5, f6⟩ := hrd.frames rfl
  subst f1 f2
  have HE : Hid ((∃ r, Rd false l [] bs false r er) ∧ OB w.heap.size (fun g => w.heap.size ≤ g) w2 bsv bs ∧ Below w.heap.size w w2) := by
    refine ⟨⟨r, hrd⟩, PO1.ob.weak B1.out.size (fun g x => Nat.le_trans B1.out.size x.1), ?_⟩
    have fr := PO1.fr
    exact ⟨fr.os.trans B1.out.os, fr.tape.trans B1.out.tape, fr.output.trans B1.out.output, Nat.le_trans B1.out.size fr.size, fun k hk => (fr.block k (Nat.lt_of_lt_of_le hk B1.out.size) ⟨by omega, by simp [Value.ownBlock]⟩).trans (B1.out.block k hk)⟩
  have hsz : sz bs ≤ 16777216 := by omega
  have hbl : bs.length ≤ 16777216 := by
    have : ∀ bs : List (List UInt8), bs.length ≤ sz bs := fun bs => by
      induction bs with
      | nil => simp
      | cons b bs ih => rw [sz_cons, List.length_cons]; omega
    have := this bs
    omega
  obtain ⟨ba, bcap, rfl⟩ := PO1.ob.form
  obtain ⟨_, _, mf⟩ := PO1.om.form
  subst mf
  clear PO1 hrd f3 f4 f5 f6 PU B1
  go_wp2
  go_loop [8, 20] (fun t i => ∃ k : Nat, k ≤ bs.length ∧ i = .int .i64 k ∧ t = .int .i64 (sz (bs.take k) : Nat)) (fun _ i => bs.length - (intOf i).toNat)
  case atStart => exact ⟨0, Nat.zero_le _, rfl, by simp [sz]⟩
  case round =>
    obtain ⟨k, hk, rfl, rfl⟩ := hrel
    by_cases hlt : k < bs.length
    · obtain ⟨_, _, e1, _, hx⟩ := HE.out.2.1.rbs
      simp only [Value.slice.injEq] at e1
      obtain ⟨rfl, _, rfl⟩ := e1
      rcases hx with h | ⟨g, o, rfl, _, hx⟩
      · rw [h] at hlt; simp at hlt
      obtain ⟨u, hu, hur⟩ := hx k hlt
      obtain ⟨ua, uc, rfl, _, _⟩ := hur
      have HZ : Hid (sz (bs.take (k + 1)) = sz (bs.take k) + (4 + (bs.getD k []).length)) := sz_take bs k hlt
      have h5 := sz_take_le bs k
      have h6 := sz_take_le bs (k + 1)
      rw [HZ.out] at h6
      clear hx
      generalize sz (bs.take k) = z at *
      generalize (bs.getD k []).length = y at *
      go_wp2
      go_round
      case rel => exact ⟨k + 1, by omega, by go_num, by rw [HZ.out]; go_num⟩
      case measure => simp [intOf]; omega
    · obtain rfl : k = bs.length := by omega
      go_wp2
      go_ret3
      exact ⟨_, bs, er, rfl, HE.out⟩
end Go.Proofs.YtkngojddeajelaaDoor.Fm
