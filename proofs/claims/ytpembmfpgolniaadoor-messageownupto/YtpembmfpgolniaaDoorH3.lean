import Derived.Test.YtpembmfpgolniaaDoorH2
namespace Go.Proofs.YtpembmfpgolniaaDoor
open Go.RowKit
/-- a message whose lists the call owns -/
structure OMg (B : Nat) (w : World) (x : Mg) : Prop where
  ok : x.m.ok
  d : OW B w x.m.d x.D
  h : OH B w x.m.h x.hb
  dl : x.D.length ≤ 32768
  hl : x.hb.length ≤ 32768
theorem OMg.mm {B : Nat} {w : World} {x : Mg} (h : OMg B w x) : MM w x.m x.D x.hb := ⟨h.ok, h.d.rb, h.h.rh, by have := h.dl; omega, by have := h.hl; omega⟩
/-- a list of messages that the call owns -/
def OMS (B : Nat) (w : World) (v : Value) (ms : List Mg) : Prop := w.ownsRow B 27 40 v ms.length (ms.flatMap fun x => x.m.ls) ∧ ∀ x ∈ ms, OMg B w x
theorem OMS.nil (B : Nat) (w : World) : OMS B w (.slice none 0 0) [] := ⟨World.ownsRow_nil _ _ _ _, by simp⟩
theorem ok_ls {m : Mv} (h : m.ok) : m.ls.length = 40 := by have := h.size; unfold Mv.cs at this; simpa using this
theorem flat40 (ms : List Mg) (h : ∀ x ∈ ms, x.m.ls.length = 40) (i : Nat) (x : Mg) (hi : ms[i]? = some x) (j : Nat) (hj : j < 40) : (ms.flatMap fun x => x.m.ls)[i * 40 + j]? = x.m.ls[j]? := by
  induction ms generalizing i with
  | nil => simp at hi
  | cons y l ih =>
    have hy : y.m.ls.length = 40 := h y (by simp)
    cases i with
    | zero =>
      simp at hi; subst hi
      rw [List.flatMap_cons, Nat.zero_mul, Nat.zero_add, List.getElem?_append_left (by omega)]
    | succ i =>
      rw [List.flatMap_cons, List.getElem?_append_right (by omega), hy, show (i + 1) * 40 + j - 40 = i * 40 + j by omega]
      exact ih (fun z hz => h z (by simp [hz])) i (by simpa using hi)
theorem OMS.rms {B : Nat} {w : World} {v : Value} {ms : List Mg} (h : OMS B w v ms) : RMS w v ms := by
  have h40 : ∀ x ∈ ms, x.m.ls.length = 40 := fun x hx => ok_ls (h.2 x hx).ok
  have h' := h.1
  rcases h.1.2 with ⟨rfl, h0⟩ | ⟨g, cap, cur, rfl, _, hg, hle, _⟩
  · exact ⟨none, 0, by rw [h0], by omega, .inl (List.length_eq_zero_iff.1 h0), fun x hx => (h.2 x hx).mm⟩
  · refine ⟨_, cap, rfl, hle, .inr ⟨g, 0, rfl, (Array.getElem?_eq_some_iff.1 hg).1, fun i x hx j u hu => ?_⟩, fun x hx => (h.2 x hx).mm⟩
    have hj : j < 40 := by
      have := (List.getElem?_eq_some_iff.1 hu).1
      rw [h40 x (List.mem_of_getElem? hx)] at this
      exact this
    have hi : i < ms.length := (List.getElem?_eq_some_iff.1 hx).1
    have := World.ownsRow.cellAt h' (i * 40 + j) (by omega)
    rw [Nat.zero_add, this, flat40 ms h40 i x hx j hj, hu]
theorem OMS.form {B : Nat} {w : World} {v : Value} {ms : List Mg} (h : OMS B w v ms) : ∃ a c, v = .slice a ms.length c := by
  obtain ⟨a, c, e, _⟩ := h.rms
  exact ⟨a, c, e⟩
theorem OMg.grow {B : Nat} {w w' : World} {x : Mg} (h : OMg B w x) (hb : Below w.heap.size w w') : OMg B w' x := ⟨h.ok, h.d.grow hb, h.h.grow hb, h.dl, h.hl⟩
theorem OMg.mono {B B' : Nat} {w : World} {x : Mg} (h : OMg B w x) (hb : B' ≤ B) : OMg B' w x := by
  refine ⟨h.ok, h.d.mono hb, ?_, h.dl, h.hl⟩
  obtain ⟨n, e, h1⟩ := h.h
  exact ⟨n, e, ownsRow_mono h1 hb⟩
theorem OMS.grow {B : Nat} {w w' : World} {v : Value} {ms : List Mg} (h : OMS B w v ms) (hb : Below w.heap.size w w') : OMS B w' v ms := by
  refine ⟨⟨h.1.1, ?_⟩, fun x hx => (h.2 x hx).grow hb⟩
  rcases h.1.2 with h1 | ⟨g, cap, cur, h1, h2, h3, h4⟩
  · exact .inl h1
  · exact .inr ⟨g, cap, cur, h1, h2, (hb.block g (Array.getElem?_eq_some_iff.1 h3).1).trans h3, h4⟩
/-- rows of bytes and of hashes are kept by what keeps all but messages' blocks -/
theorem OMg.rows {B : Nat} {w w' : World} {x : Mg} (h : OMg B w x) (hr : ∀ (k : Nat) (cs : Array Value) (t : TypeId), w.heap[k]? = some (.cells cs t (0, 0)) → t ≠ 27 → w'.heap[k]? = some (.cells cs t (0, 0))) : OMg B w' x := by
  refine ⟨h.ok, ⟨h.d.1, ?_⟩, ?_, h.dl, h.hl⟩
  · rcases h.d.2 with h1 | ⟨k, cap, cur, h1, h2, h3, h4⟩
    · exact .inl h1
    · exact .inr ⟨k, cap, cur, h1, h2, hr _ _ _ h3 (by decide), h4⟩
  · obtain ⟨n, e, hh⟩ := h.h
    refine ⟨n, e, hh.1, ?_⟩
    rcases hh.2 with h1 | ⟨k, cap, cur, h1, h2, h3, h4⟩
    · exact .inl h1
    · exact .inr ⟨k, cap, cur, h1, h2, hr _ _ _ h3 (by decide), h4⟩
theorem build_msg {ops : Array Oper} {rest : List Oper} {o : Oper} {a : Act} {w : World} {Q : Exit → Act → World → Prop} (hg : o.guard = none) (x : Operand) (ho : o.op = .buildSlice 33 1 #[(0, x)]) (cs : Array Value) (hv : a.eval x = .agg cs) (hl : cs.size = 40)
    (h : wpList Tryd.prog ops Q rest (a.put o.dst (.slice (some ⟨w.heap.size, 0, none⟩) 1 1)) (w.alloc (.cells cs 27))) : wpList Tryd.prog ops Q (o :: rest) a w := by
  obtain ⟨i0, hi, hz0, hz1, hz2⟩ := info_parts info_msgP
  refine wpList_buildSlice hg 33 27 1 _ ho cs i0 _ Tryd.underlying33 hi hz0 (by rw [hz1]; decide) (by rw [hz1]; decide) ?_ h
  rw [hz1]
  have e : (#[(0, x)].map fun (i, y) => (i, a.eval y)).toList = [(0, .agg cs)] := by simp [hv]
  rw [e]
  exact fillN 40 cs hl _ (by rw [Array.size_map, Array.size_range])
/-- one more message joins a list of messages -/
theorem append_msg {ops : Array Oper} {rest : List Oper} {o : Oper} {a : Act} {Q : Exit → Act → World → Prop} {w : World} {B : Nat} {sv : Value} {ms : List Mg} (hgd : o.guard = none) (s x : Operand)
    (ho : o.op = .call { callee := .builtin .append, args := #[s, x], argTypes := #[33, 33] }) (hs : a.eval s = sv) (hown : OMS B w sv ms) (b : Nat) (y : Mg) (hx : a.eval x = .slice (some ⟨b, 0, none⟩) 1 1)
    (hc : w.heap[b]? = some (.cells y.m.cs 27 (0, 0))) (hy : OMg B w y) (hB : B ≤ w.heap.size) (hlim : ms.length < 1073741824)
    (h : ∀ v' w', OMS B w' v' (ms ++ [y]) → Below B w w' → (∀ (k : Nat) (cs : Array Value) (t : TypeId), w.heap[k]? = some (.cells cs t (0, 0)) → t ≠ 27 → w'.heap[k]? = some (.cells cs t (0, 0))) → wpList Tryd.prog ops Q rest (a.put o.dst v') w') : wpList Tryd.prog ops Q (o :: rest) a w := by
  obtain ⟨i0, hi, hz0, hz1, hz2⟩ := info_parts info_msgP
  have hy40 := ok_ls hy.ok
  refine wpList_append_own w hgd s x 33 ho B 27 i0 _ 40 128 Tryd.underlying33 hi hz0 hz1 hz2 rfl (by omega) sv ms.length (ms.flatMap fun x => x.m.ls) hs hown.1 ⟨b, 0, none⟩ 1 1 y.m.ls hx (by rw [hy40]) (fun j u hu => ?_) (fun u hu => ?_) (by unfold maxLen; omega) (by omega) hB (fun v' w' h1 h2 _ => ?_)
  · rw [Addr.add_mid, Nat.zero_add]
    simp only [World.cell?, hc]
    simpa [Mv.cs] using hu
  · exact Array.all_eq_true_iff_forall_mem.1 hy.ok.one u (by simpa [Mv.cs] using hu)
  · have hrow : ∀ (k : Nat) (cs : Array Value) (t : TypeId), w.heap[k]? = some (.cells cs t (0, 0)) → t ≠ 27 → w'.heap[k]? = some (.cells cs t (0, 0)) := fun k cs t hk ht => by
      refine (h2.block k (Array.getElem?_eq_some_iff.1 hk).1 fun e' => ?_).trans hk
      rcases hown.1.2 with ⟨rfl, _⟩ | ⟨g, cap, cur, rfl, _, hg, _⟩
      · simp [Value.ownBlock] at e'
      · simp [Value.ownBlock] at e'
        subst e'
        rw [hk] at hg
        simp at hg
        exact ht hg.2
    refine h v' w' ⟨?_, fun z hz => ?_⟩ ((Below.refl B w).grown h2 hB (fun k hk => (World.ownsRow.lt hown.1 k hk).1)) hrow
    · rw [List.flatMap_append, List.length_append]
      simpa using h1
    · rcases List.mem_append.1 hz with hz | hz
      · exact (hown.2 z hz).rows hrow
      · simp at hz; subst hz; exact hy.rows hrow
theorem ownsRow_rows {B : Nat} {w w' : World} {e n : Nat} {size : Nat} {v : Value} {us : List Value} (he : e ≠ 27) (h : w.ownsRow B e size v n us) (hr : ∀ (k : Nat) (cs : Array Value) (t : TypeId), w.heap[k]? = some (.cells cs t (0, 0)) → t ≠ 27 → w'.heap[k]? = some (.cells cs t (0, 0))) : w'.ownsRow B e size v n us := by
  refine ⟨h.1, ?_⟩
  rcases h.2 with h1 | ⟨k, cap, cur, h1, h2, h3, h4⟩
  · exact .inl h1
  · exact .inr ⟨k, cap, cur, h1, h2, hr _ _ _ h3 he, h4⟩
theorem OR.rows {B : Nat} {w w' : World} {v : Value} {bs : List (List UInt8)} (h : Fm.OR B w v bs) (hr : ∀ (k : Nat) (cs : Array Value) (t : TypeId), w.heap[k]? = some (.cells cs t (0, 0)) → t ≠ 27 → w'.heap[k]? = some (.cells cs t (0, 0))) : Fm.OR B w' v bs := by
  obtain ⟨us, h1, h2, h3⟩ := h
  exact ⟨us, h1, ownsRow_rows (by decide) h2 hr, fun i hi => ownsRow_rows (by decide) (h3 i hi) hr⟩
theorem OR.grow {B : Nat} {w w' : World} {v : Value} {bs : List (List UInt8)} (h : Fm.OR B w v bs) (hb : Below w.heap.size w w') : Fm.OR B w' v bs := h.keep fun k _ hk => hb.block k hk
theorem OR.of_ob {B : Nat} {w : World} {v : Value} {bs : List (List UInt8)} (h : Fm.OB B (fun g => B ≤ g) w v bs) (hl : ∀ b ∈ bs, b.length ≤ 32768) : Fm.OR B w v bs := by
  obtain ⟨us, h1, h2, h3⟩ := h
  refine ⟨us, h1, h2, fun i hi => ?_⟩
  obtain ⟨g, hg, e, hh⟩ := h3 i hi
  rw [e]
  have hm : (bs.getD i []) ∈ bs := by rw [List.getD_eq_getElem?_getD, List.getElem?_eq_getElem hi]; exact List.getElem_mem hi
  have := hl _ hm
  exact OW.of_block (l := bs.getD i []) hg hh rfl (List.take_length ..) (Nat.le_refl _) (by unfold maxLen; omega)
end Go.Proofs.YtpembmfpgolniaaDoor
namespace Go.Proofs.YtpembmfpgolniaaDoor
open Go.RowKit
/-- the bodies ahead of the first that is no message -/
def gds (bs : List (List UInt8)) : List (List UInt8) := bs.takeWhile fun b => decE b == 0
/-- what ends the reading -/
def unwE (bs : List (List UInt8)) (er : Int) : Int :=
  match bs.drop (gds bs).length with
  | [] => er
  | b :: _ => decE b
/-- what a body reads as, with its lists in memory -/
def mgOf (b : List UInt8) (d h : Value) : Mg := ⟨{ (decS b).m with d := d, h := h }, (decS b).D, (decS b).hb⟩
/-- these messages are what these bodies read as -/
def MsOf (ms : List Mg) (bs : List (List UInt8)) : Prop := ms.length = bs.length ∧ ∀ (i : Nat) x b, ms[i]? = some x → bs[i]? = some b → ∃ d h, x = mgOf b d h
theorem MsOf.snoc {ms : List Mg} {bs : List (List UInt8)} (h : MsOf ms bs) (b : List UInt8) (d h' : Value) : MsOf (ms ++ [mgOf b d h']) (bs ++ [b]) := by
  refine ⟨by simp [h.1], fun i x c hx hc => ?_⟩
  by_cases hi : i < ms.length
  · rw [List.getElem?_append_left hi] at hx
    rw [List.getElem?_append_left (by rw [← h.1]; exact hi)] at hc
    exact h.2 i x c hx hc
  · rw [List.getElem?_append_right (by omega)] at hx
    rw [List.getElem?_append_right (by rw [← h.1]; omega), ← h.1] at hc
    have h0 : i - ms.length = 0 := by
      have := (List.getElem?_eq_some_iff.1 hx).1
      simp at this
      omega
    rw [h0] at hx hc
    simp at hx hc
    subst hx hc
    exact ⟨d, h', rfl⟩
theorem gds_all {bs : List (List UInt8)} (h : ∀ (i : Nat) b, bs[i]? = some b → decE b = 0) : gds bs = bs := by
  induction bs with
  | nil => rfl
  | cons c bs ih =>
    have h0 := h 0 c rfl
    have h1 := ih (fun i b hb => h (i + 1) b (by simpa using hb))
    unfold gds at h1 ⊢
    rw [List.takeWhile_cons, if_pos (by simpa using h0), h1]
theorem gds_stop {bs : List (List UInt8)} {n : Nat} {b : List UInt8} (hb : bs[n]? = some b) (h : ∀ (i : Nat) c, i < n → bs[i]? = some c → decE c = 0) (h0 : decE b ≠ 0) : gds bs = bs.take n := by
  induction bs generalizing n with
  | nil => simp at hb
  | cons c bs ih =>
    cases n with
    | zero =>
      simp at hb
      subst hb
      unfold gds
      simp [h0]
    | succ n =>
      have hc := h 0 c (by omega) rfl
      unfold gds at ih ⊢
      rw [List.takeWhile_cons, if_pos (by simpa using hc), List.take_succ_cons]
      congr 1
      exact ih (by simpa using hb) (fun i d hi hd => h (i + 1) d (by omega) (by simpa using hd))
theorem unwE_all {bs : List (List UInt8)} {er : Int} (h : gds bs = bs) : unwE bs er = er := by
  unfold unwE
  rw [h, List.drop_length]
theorem unwE_stop {bs : List (List UInt8)} {er : Int} {n : Nat} {b : List UInt8} (hb : bs[n]? = some b) (h : gds bs = bs.take n) : unwE bs er = decE b := by
  unfold unwE
  have hn := (List.getElem?_eq_some_iff.1 hb).1
  rw [h, List.length_take, Nat.min_eq_left (by omega), List.drop_eq_getElem_cons hn]
  have e := (List.getElem?_eq_some_iff.1 hb).2
  rw [e]
/-- the messages told -/
def UNX (w w' : World) (v : Value) (ms : List Mg) (gs : List (List UInt8)) : Prop := OMS w.heap.size w' v ms ∧ MsOf ms gs ∧ Below w.heap.size w w'
/-- what Unwire answers -/
def UNR (w w' : World) (e : Ending) (bs : List (List UInt8)) (er : Int) : Prop :=
  ∃ v ms, e = .returned (.tuple #[v, .int .i64 (Fm.sz (gds bs) : Nat), .int .i64 (unwE bs er)]) ∧ OMS w.heap.size w' v ms ∧ MsOf ms (gds bs) ∧ Below w.heap.size w w'
/-- what its loop keeps -/
structure UIN (w wr : World) (bv u : Value) (bs : List (List UInt8)) (n : Nat) (ms : List Mg) : Prop where
  o : OMS w.heap.size wr u ms
  m : MsOf ms (bs.take n)
  g : ∀ (i : Nat) c, i < n → bs[i]? = some c → decE c = 0
  b : Below w.heap.size w wr
  r : Fm.OR w.heap.size wr bv bs
theorem decS_len (l : List UInt8) : (decS l).D.length ≤ 32768 ∧ (decS l).hb.length ≤ 32768 := by
  unfold decS
  by_cases hE : decE l = 0
  · rw [if_pos hE]
    unfold decE at hE
    split at hE
    · omega
    · rename_i h1
      cases hr : rowFor (kindB l) with
      | none => rw [hr] at hE; simp at hE
      | some r =>
        simp only
        have key : ∀ (cs : List Nat) (s : Ds), s.l.length ≤ 32768 → s.D.length ≤ 32768 → s.hb.length ≤ 32768 → (Ds.tks cs s).D.length ≤ 32768 ∧ (Ds.tks cs s).hb.length ≤ 32768 := by
          intro cs
          induction cs with
          | nil => intro s _ h2 h3; exact ⟨h2, h3⟩
          | cons c cs ih =>
            intro s h1 h2 h3
            refine ih (Ds.tk c s) (Nat.le_trans (rst_le c s.l) h1) ?_ ?_
            · show (dD c s.l s.D).length ≤ _
              unfold dD; split <;> assumption
            · show (dH c s.l s.hb).length ≤ _
              unfold dH; split <;> assumption
        exact key r.cs ⟨zmk r.k, [], [], l⟩ (by simp only; omega) (by simp) (by simp)
  · rw [if_neg hE]
    exact ⟨by simp, by simp⟩
theorem OMg.of_dec {B : Nat} {w w' : World} {l : List UInt8} {d h : Value} (hB : B ≤ w.heap.size) (hd : OW w.heap.size w' d (decS l).D) (hh : OH w.heap.size w' h (decS l).hb) : OMg B w' (mgOf l d h) := by
  have hm := MM.of_dec hd hh
  have hl := decS_len l
  obtain ⟨n, e, h1⟩ := hh
  exact ⟨hm.ok, hd.mono hB, ⟨n, e, ownsRow_mono h1 hB⟩, hl.1, hl.2⟩
theorem sz_ge (bs : List (List UInt8)) : bs.length ≤ Fm.sz bs := by
  induction bs with
  | nil => simp
  | cons b bs ih => rw [Fm.sz_cons, List.length_cons]; omega
theorem UIN.next {w wr w5 : World} {bv u v5 : Value} {bs : List (List UInt8)} {n : Nat} {ms ms' : List Mg} {b : List UInt8} (h : UIN w wr bv u bs n ms) (hm : MsOf ms' (bs.take (n + 1))) (ho : OMS w.heap.size w5 v5 ms') (h5 : Below w.heap.size w w5) (hb : bs[n]? = some b) (h0 : decE b = 0) (hrow : Fm.OR w.heap.size w5 bv bs) : UIN w w5 bv v5 bs (n + 1) ms' :=
  ⟨ho, hm, fun i c hi hc => by
    rcases Nat.lt_or_ge i n with h' | h'
    · exact h.g i c h' hc
    · obtain rfl : i = n := by omega
      rw [hb] at hc
      cases hc
      exact h0, h5, hrow⟩
set_option maxHeartbeats 2000000 in
set_option maxRecDepth 100000 in
theorem unwireT (w : World) (v : Value) (l : List UInt8) (hl : l.length ≤ 16777216) (hr : RB w v l) (hk : KT w) :
    Calls Tryd.prog 7 #[v] w fun e w' => ∃ bs er, (∃ r, Fm.Rd false l [] bs false r er) ∧ UNR w w' e bs er := by
  have HR : Hid (RB w v l ∧ KT w) := ⟨hr, hk⟩
  obtain ⟨a, c, rfl, _⟩ := hr
  clear hk
  go_enter Tryd.func7, Tryd.ntmps7
  go_wp2_with fail
  refine (Fm.splitP _ l hl w HR.out.1).mono ?_
  rintro e w1 ⟨bv, bs, er, rfl, hrd, ob, b1⟩
  obtain ⟨va, vc, rfl⟩ := ob.form
  have HB : Hid ((∃ r, Fm.Rd false l [] bs false r er) ∧ Fm.OR w.heap.size w1 (.slice va bs.length vc) bs ∧ KT w ∧ Below w.heap.size w w1) := ⟨hrd, OR.of_ob ob (by obtain ⟨r, hrd⟩ := hrd; exact (hrd.frames rfl).2.2.2.2.2), HR.out.2, b1⟩
  clear hrd ob b1 HR
  go_wp2_with fail
  generalize hln : bs.length = len at *
  have HN : Hid (bs.length = len) := hln
  clear hln
  have hszl : Fm.sz bs ≤ 16777216 := by
    obtain ⟨r, hrd⟩ := HB.out.1
    have h9 := (hrd.frames rfl).2.2.1
    omega
  have hlen : len ≤ 16777216 := by
    have h8 := sz_ge bs
    have := HN.out
    omega
  have HI0 : Hid (UIN w w1 (.slice va len vc) (.slice none 0 0) bs 0 []) := ⟨OMS.nil _ _, ⟨rfl, by simp⟩, fun i c hi => by omega, HB.out.2.2.2, HB.out.2.1⟩
  have HK : Hid (KT w) := HB.out.2.2.1
  have HRD : Hid (∃ r, Fm.Rd false l [] bs false r er) := HB.out.1
  clear HB
  generalize hSZ : Fm.sz bs = SZ at *
  have HSZ : Hid (Fm.sz bs = SZ) := hSZ
  clear hSZ
  go_loopw [8, 9, 22] (fun u n9 t wr => ∃ n : Nat, n ≤ len ∧ t = .int .i64 n ∧ n9 = .int .i64 (Fm.sz (bs.take n) : Nat) ∧ Hid (∃ ms, UIN w wr (.slice va len vc) u bs n ms)) (fun _ _ t _ => len - (intOf t).toNat)
  case atStart => exact ⟨0, by omega, rfl, rfl, ⟨[], HI0.out⟩⟩
  case round =>
    obtain ⟨n, hn, rfl, rfl, hI⟩ := hrel
    obtain ⟨ms, hU⟩ := hI.out
    by_cases hlt : n < len
    · have hl2 : n < bs.length := by rw [HN.out]; exact hlt
      have hx : bs[n]? = some bs[n] := List.getElem?_eq_getElem hl2
      generalize hbn : bs[n] = b at hx
      have hbl : b.length ≤ 32768 := by
        obtain ⟨r, hrd⟩ := HRD.out
        exact (hrd.frames rfl).2.2.2.2.2 b (List.mem_of_getElem? hx)
      obtain ⟨a', c', e', _, hR⟩ := hU.r.rbs
      simp only [Value.slice.injEq] at e'
      obtain ⟨rfl, -, rfl⟩ := e'
      rcases hR with h | ⟨g, o, rfl, hg, hR⟩
      · rw [h] at hl2; simp at hl2
      obtain ⟨bu, hcu, hbu⟩ := hR n hl2
      have hgd : bs.getD n [] = b := by rw [List.getD_eq_getElem?_getD, hx]; rfl
      rw [hgd] at hbu
      obtain ⟨ba, bc', rfl, _⟩ := id hbu
      have HU : Hid (UIN w wr (.slice (some ⟨g, o, none⟩) len vc) u8 bs n ms ∧ RB wr (.slice ba b.length bc') b ∧ bs[n]? = some b ∧ bs.take (n + 1) = bs.take n ++ [b] ∧ Fm.sz (bs.take (n + 1)) ≤ 16777216) := by
        refine ⟨hU, hbu, hx, by rw [List.take_add_one, hx]; rfl, ?_⟩
        have := Fm.sz_take_le bs (n + 1)
        have := HSZ.out
        omega
      have hs9 : Fm.sz (bs.take (n + 1)) = Fm.sz (bs.take n) + (4 + b.length) := by rw [HU.out.2.2.2.1, Fm.sz_snoc]
      have hs8 := HU.out.2.2.2.2
      rw [hs9] at hs8
      have HS9 : Hid (Fm.sz (bs.take (n + 1)) = Fm.sz (bs.take n) + (4 + b.length)) := hs9
      generalize Fm.sz (bs.take n) = S9 at *
      obtain ⟨ua, uc, rfl⟩ := hU.o.form
      have HML : Hid (ms.length < 1073741824) := by
        have h9 := hU.m.1
        rw [List.length_take] at h9
        unfold Hid
        omega
      clear hU hI hR hbu hx hgd hs9 hbn
      go_wp2_with fail
      refine (decodeT wr _ b (by omega) HU.out.2.1 (HK.out.below HU.out.1.b HK.out.pos)).mono ?_
      rintro e w2 ⟨d1, h1, rfl, q1, q2, q3⟩
      have M1 : OMg w.heap.size w2 (mgOf b d1 h1) := OMg.of_dec HU.out.1.b.size q1 q2
      have e1 : ({ (decS b).m with d := d1, h := h1 } : Mv) = (mgOf b d1 h1).m := rfl
      rw [e1]
      generalize hmm : mgOf b d1 h1 = mm at *
      have HMM : Hid (mgOf b d1 h1 = mm) := hmm
      clear hmm
      have hz2 := heapNew w2 (.cells z40 27)
      have hi1 := info_msg M1.ok
      have ho1 := M1.ok.one
      have hs1 : z40.size = mm.m.cs.size := M1.ok.size.symm
      have hc := heapSetRow _ _ _ mm.m.cs _ hz2
      have bX : Below w2.heap.size w2 ((w2.alloc (.cells z40 27)).setRow w2.heap.size mm.m.cs) := belowSetRow ((Below.refl _ _).alloc (Nat.le_refl _) _) (Nat.le_refl _) _
      have b9 : Below wr.heap.size wr ((w2.alloc (.cells z40 27)).setRow w2.heap.size mm.m.cs) := q3.trans (bX.mono q3.size)
      by_cases h0 : decE b = 0
      · rw [h0]
        have hsz40 : mm.m.cs.size = 40 := M1.ok.size
        have bZ : Below ((w2.alloc (.cells z40 27)).setRow w2.heap.size mm.m.cs).heap.size ((w2.alloc (.cells z40 27)).setRow w2.heap.size mm.m.cs) (((w2.alloc (.cells z40 27)).setRow w2.heap.size mm.m.cs).alloc (.cells mm.m.cs 27)) := (Below.refl _ _).alloc (Nat.le_refl _) _
        have bT : Below wr.heap.size wr (((w2.alloc (.cells z40 27)).setRow w2.heap.size mm.m.cs).alloc (.cells mm.m.cs 27)) := b9.trans (bZ.mono b9.size)
        have HV : Hid (OMS w.heap.size (((w2.alloc (.cells z40 27)).setRow w2.heap.size mm.m.cs).alloc (.cells mm.m.cs 27)) (.slice ua ms.length uc) ms ∧ OMg w.heap.size (((w2.alloc (.cells z40 27)).setRow w2.heap.size mm.m.cs).alloc (.cells mm.m.cs 27)) mm ∧ (((w2.alloc (.cells z40 27)).setRow w2.heap.size mm.m.cs).alloc (.cells mm.m.cs 27)).heap[((w2.alloc (.cells z40 27)).setRow w2.heap.size mm.m.cs).heap.size]? = some (.cells mm.m.cs 27 (0, 0)) ∧ Below w.heap.size w (((w2.alloc (.cells z40 27)).setRow w2.heap.size mm.m.cs).alloc (.cells mm.m.cs 27)) ∧ Fm.OR w.heap.size (((w2.alloc (.cells z40 27)).setRow w2.heap.size mm.m.cs).alloc (.cells mm.m.cs 27)) (.slice (some ⟨g, o, none⟩) len vc) bs ∧ decE b = 0) := ⟨HU.out.1.o.grow bT, (M1.grow bX).grow bZ, heapNew _ _, HU.out.1.b.trans (bT.mono HU.out.1.b.size), OR.grow HU.out.1.r bT, h0⟩
        clear h0 q1 q2 q3 bX b9 bZ bT M1
        go_wp2_with (first | (refine wpList_store_row rfl 27 _ _ rfl w2.heap.size mm.m.cs rfl rfl 27 z40 hz2 hi1 hs1 ho1 ?_) | (refine wpList_load_row rfl 27 _ rfl w2.heap.size rfl 27 mm.m.cs (0, 0) _ hc Tryd.underlying27 rfl hi1 ?_) | (refine build_msg rfl _ rfl mm.m.cs rfl hsz40 ?_) | (at_builtin; refine append_msg rfl _ _ rfl rfl HV.out.1 ((w2.alloc (.cells z40 27)).setRow w2.heap.size mm.m.cs).heap.size mm rfl HV.out.2.2.1 HV.out.2.1 HV.out.2.2.2.1.size HML.out ?_; intro v5 w5 o5 b5 r5))
        refine ⟨⟨n + 1, by omega, by go_num, by rw [HS9.out]; go_num, ⟨ms ++ [mm], ?_⟩⟩, by simp [intOf]; omega⟩
        have hmS : MsOf (ms ++ [mm]) (bs.take (n + 1)) := by
          rw [HU.out.2.2.2.1, ← HMM.out]
          exact HU.out.1.m.snoc b d1 h1
        exact UIN.next HU.out.1 hmS o5 (HV.out.2.2.2.1.trans b5) HU.out.2.2.1 HV.out.2.2.2.2.2 (OR.rows HV.out.2.2.2.2.1 r5)
      · obtain ⟨ve, hve⟩ : ∃ ve, decE b = ve := ⟨_, rfl⟩
        have HV : Hid (unwE bs er = ve ∧ Fm.sz (gds bs) = S9 ∧ UNX w ((w2.alloc (.cells z40 27)).setRow w2.heap.size mm.m.cs) (.slice ua ms.length uc) ms (gds bs)) := by
          have hgs := gds_stop HU.out.2.2.1 HU.out.1.g h0
          have hsn := HU.out.2.2.2.1
          refine ⟨by rw [unwE_stop HU.out.2.2.1 hgs]; exact hve, ?_, ?_⟩
          · rw [hgs]
            have h9 := HS9.out
            rw [hsn, Fm.sz_snoc] at h9
            omega
          · rw [hgs]
            exact ⟨HU.out.1.o.grow b9, HU.out.1.m, HU.out.1.b.trans (b9.mono HU.out.1.b.size)⟩
        rw [hve] at h0 ⊢
        clear q1 q2 q3 bX b9 M1 hve
        go_wp2_with (first | (refine wpList_store_row rfl 27 _ _ rfl w2.heap.size mm.m.cs rfl rfl 27 z40 hz2 hi1 hs1 ho1 ?_))
        go_ret3
        exact ⟨bs, er, HRD.out, _, ms, by rw [HV.out.1, HV.out.2.1]; rfl, HV.out.2.2⟩
    · obtain rfl : n = len := by omega
      have HV : Hid (unwE bs er = er ∧ Fm.sz (gds bs) = SZ ∧ UNX w wr u8 ms (gds bs)) := by
        have htk : bs.take n = bs := List.take_of_length_le (by have := HN.out; omega)
        have hga : gds bs = bs := gds_all fun i c hc => hU.g i c (by have := (List.getElem?_eq_some_iff.1 hc).1; have := HN.out; omega) hc
        have h8 := hU.m
        rw [htk] at h8
        refine ⟨unwE_all hga, by rw [hga]; exact HSZ.out, ?_⟩
        rw [hga]
        exact ⟨hU.o, h8, hU.b⟩
      clear hU hI
      go_wp2
      go_ret3
      exact ⟨bs, er, HRD.out, _, ms, by rw [HV.out.1, HV.out.2.1]; rfl, HV.out.2.2⟩
end Go.Proofs.YtpembmfpgolniaaDoor
namespace Go.Proofs.YtpembmfpgolniaaDoor
open Go.RowKit
theorem OR.cellAt {B : Nat} {w : World} {g o n c : Nat} {bs : List (List UInt8)} (h : Fm.OR B w (.slice (some ⟨g, o, none⟩) n c) bs) : ∃ cur, w.heap[g]? = some (.cells cur 22 (0, 0)) := by
  obtain ⟨us, _, h2, _⟩ := h
  rcases h2.2 with ⟨h1, _⟩ | ⟨k, cap, cur, h1, _, h3, _⟩
  · simp at h1
  · simp only [Value.slice.injEq, Option.some.injEq, Addr.mk.injEq] at h1
    obtain ⟨⟨rfl, -⟩, -⟩ := h1
    exact ⟨cur, h3⟩
end Go.Proofs.YtpembmfpgolniaaDoor
namespace Go.Proofs.YtpembmfpgolniaaDoor
open Go.RowKit
/-- the same messages, their lists elsewhere in memory -/
def MsEq (ms ns : List Mg) : Prop := ns.length = ms.length ∧ ∀ (i : Nat) x y, ms[i]? = some x → ns[i]? = some y → y.D = x.D ∧ y.hb = x.hb ∧ y.m = { x.m with d := y.m.d, h := y.m.h }
theorem MsOf.eq {ms ns : List Mg} {bs : List (List UInt8)} (h1 : MsOf ms bs) (h2 : MsOf ns bs) : MsEq ms ns := by
  refine ⟨h2.1.trans h1.1.symm, fun i x y hx hy => ?_⟩
  have hi : i < bs.length := by rw [← h1.1]; exact (List.getElem?_eq_some_iff.1 hx).1
  obtain ⟨d, h, rfl⟩ := h1.2 i x _ hx (List.getElem?_eq_getElem hi)
  obtain ⟨d', h', rfl⟩ := h2.2 i y _ hy (List.getElem?_eq_getElem hi)
  exact ⟨rfl, rfl, rfl⟩
set_option maxHeartbeats 2000000 in
set_option maxRecDepth 100000 in
theorem rowSameT (w : World) (v1 v2 : Value) (ms ns : List Mg) (h1 : RMS w v1 ms) (h2 : RMS w v2 ns) (he : MsEq ms ns) (hl : ms.length ≤ 140737488351232) :
    Calls Tryd.prog 15 #[v1, v2] w fun e w' => e = .returned (.bool true) ∧ Below w.heap.size w w' := by
  obtain ⟨a1, c1, rfl, _⟩ := id h1
  obtain ⟨a2, c2, rfl, _⟩ := id h2
  have HE : Hid (RMS w (.slice a1 ms.length c1) ms ∧ RMS w (.slice a2 ns.length c2) ns ∧ MsEq ms ns) := ⟨h1, h2, he⟩
  have hln : ns.length = ms.length := he.1
  rw [hln] at HE ⊢
  clear h1 h2 he
  generalize hlm : ms.length = len at *
  have HN : Hid (ms.length = len ∧ ns.length = len) := ⟨hlm, hln⟩
  clear hlm hln
  go_enter Tryd.func15, Tryd.ntmps15
  go_wp2
  go_loopw [5] (fun t wr => ∃ n : Nat, n ≤ len ∧ t = .int .i64 n ∧ Hid (Below w.heap.size w wr)) (fun t _ => len - (intOf t).toNat)
  case atStart => exact ⟨0, by omega, rfl, Below.refl _ _⟩
  case round =>
    obtain ⟨n, hn, rfl, hb⟩ := hrel
    by_cases hlt : n < len
    · have hl1 : n < ms.length := by have := HN.out.1; omega
      have hl2 : n < ns.length := by have := HN.out.2; omega
      have hx : ms[n]? = some ms[n] := List.getElem?_eq_getElem hl1
      have hy : ns[n]? = some ns[n] := List.getElem?_eq_getElem hl2
      generalize ms[n] = x at hx
      generalize ns[n] = y at hy
      obtain ⟨g1, o1, rfl, hg1, hr1, hm1⟩ := HE.out.1.at n x hx
      obtain ⟨g2, o2, rfl, hg2, hr2, hm2⟩ := HE.out.2.1.at n y hy
      obtain ⟨e1, e2, e3⟩ := HE.out.2.2.2 n x y hx hy
      rw [e1, e2] at hm2
      have hr1' : wr.rangeAt g1 (o1 + n * 40) x.m.ls := fun j z hj => (hb.out.cell (p := ⟨g1, o1 + n * 40 + j, none⟩) hg1).trans (hr1 j z hj)
      have hr2' : wr.rangeAt g2 (o2 + n * 40) y.m.ls := fun j z hj => (hb.out.cell (p := ⟨g2, o2 + n * 40 + j, none⟩) hg2).trans (hr2 j z hj)
      have hi1 : (Tryd.prog.info? 27).map (·.size) = some x.m.ls.length := by rw [ok_ls hm1.ok]; kernel_rfl
      have hi2 : (Tryd.prog.info? 27).map (·.size) = some y.m.ls.length := by rw [ok_ls hm2.ok]; kernel_rfl
      have HC : Hid (Calls Tryd.prog 11 #[.agg x.m.cs, .agg y.m.cs] wr.drew fun e w' => e = .returned (.bool true) ∧ Below wr.drew.heap.size wr.drew w') := msameT wr.drew x.m y.m x.D x.hb (hm1.keep (hb.out.drew)) (hm2.keep (hb.out.drew)) e3
      clear hr1 hr2 hm1 hm2 e1 e2 e3 hx hy
      go_wp2
      refine wp_region_held_drew (S := fun u => u.rangeAt g1 (o1 + n * 40) x.m.ls ∧ u.rangeAt g2 (o2 + n * 40) y.m.ls) (by kernel_rfl) (⟨hr1', hr2'⟩) (fun hHeld => ?_)
      refine wpAnyH_take (i := 0) (v := .slice (some ⟨g1, o1, none⟩) len c1) rfl (by kernel_rfl) (by kernel_rfl) (by kernel_rfl) (fun _ _ _ h => h) (Or.inl ⟨by rfl, fun w hw => by go_simp⟩) hHeld ?_
      simp only [Act.put, List.getElem_toArray, List.getElem_cons_zero, List.setIfInBounds_toArray, List.set_cons_zero, List.set_cons_succ]
      refine wpAnyH_take (i := 1) (v := .int .i64 n) rfl (by kernel_rfl) (by kernel_rfl) (by kernel_rfl) (fun _ _ _ h => h) (Or.inl ⟨by rfl, fun w hw => by go_simp⟩) hHeld ?_
      simp only [Act.put, List.getElem_toArray, List.getElem_cons_zero, List.getElem_cons_succ, List.setIfInBounds_toArray, List.set_cons_zero, List.set_cons_succ]
      refine wpAnyH_take (i := 2) (v := .pointer (some ⟨g1, o1 + n * 40, none⟩)) rfl (by kernel_rfl) (by kernel_rfl) (by kernel_rfl) (fun _ _ _ h => h) (Or.inl ⟨by rfl, fun w hw => by go_simp⟩) hHeld ?_
      simp only [Act.put, List.getElem_toArray, List.getElem_cons_zero, List.getElem_cons_succ, List.setIfInBounds_toArray, List.set_cons_zero, List.set_cons_succ]
      refine wpAnyH_take (i := 3) (v := _) rfl (by kernel_rfl) (by kernel_rfl) (by kernel_rfl) (fun _ _ _ h => h) (yieldsIf_load_mid (by rfl) _ _ rfl _ _ rfl _ _ (fun _ h => h.1) Tryd.underlying27 rfl hi1) hHeld ?_
      simp only [Act.put, List.getElem_toArray, List.getElem_cons_zero, List.getElem_cons_succ, List.setIfInBounds_toArray, List.set_cons_zero, List.set_cons_succ]
      refine wpAnyH_take (i := 4) (v := .slice (some ⟨g2, o2, none⟩) len c2) rfl (by kernel_rfl) (by kernel_rfl) (by kernel_rfl) (fun _ _ _ h => h) (Or.inl ⟨by rfl, fun w hw => by go_simp⟩) hHeld ?_
      simp only [Act.put, List.getElem_toArray, List.getElem_cons_zero, List.getElem_cons_succ, List.setIfInBounds_toArray, List.set_cons_zero, List.set_cons_succ]
      refine wpAnyH_take (i := 5) (v := .int .i64 n) rfl (by kernel_rfl) (by kernel_rfl) (by kernel_rfl) (fun _ _ _ h => h) (Or.inl ⟨by rfl, fun w hw => by go_simp⟩) hHeld ?_
      simp only [Act.put, List.getElem_toArray, List.getElem_cons_zero, List.getElem_cons_succ, List.setIfInBounds_toArray, List.set_cons_zero, List.set_cons_succ]
      refine wpAnyH_take (i := 6) (v := .pointer (some ⟨g2, o2 + n * 40, none⟩)) rfl (by kernel_rfl) (by kernel_rfl) (by kernel_rfl) (fun _ _ _ h => h) (Or.inl ⟨by rfl, fun w hw => by go_simp⟩) hHeld ?_
      simp only [Act.put, List.getElem_toArray, List.getElem_cons_zero, List.getElem_cons_succ, List.setIfInBounds_toArray, List.set_cons_zero, List.set_cons_succ]
      refine wpAnyH_take (i := 7) (v := _) rfl (by kernel_rfl) (by kernel_rfl) (by kernel_rfl) (fun _ _ _ h => h) (yieldsIf_load_mid (by rfl) _ _ rfl _ _ rfl _ _ (fun _ h => h.2) Tryd.underlying27 rfl hi2) hHeld ?_
      simp only [Act.put, List.getElem_toArray, List.getElem_cons_zero, List.getElem_cons_succ, List.setIfInBounds_toArray, List.set_cons_zero, List.set_cons_succ]
      refine wpAnyH_ready (rs := [8]) (by kernel_rfl) (by simp) ?_
      refine AllReadyH.cons (o := _) rfl (fun K hK => ?_) AllReadyH.nil
      go_simp
      refine (HC.out).mono ?_
      rintro e w' ⟨rfl, b5⟩
      have b6 : Below w.heap.size w w' := hb.out.drew.trans (b5.mono hb.out.size)
      have HB6 : Hid (Below w.heap.size w w') := b6
      have hk1 : w'.rangeAt g1 (o1 + n * 40) x.m.ls := fun j z hj => (b5.cell (p := ⟨g1, o1 + n * 40 + j, none⟩) (Nat.lt_of_lt_of_le hg1 hb.out.size)).trans (hr1' j z hj)
      have hk2 : w'.rangeAt g2 (o2 + n * 40) y.m.ls := fun j z hj => (b5.cell (p := ⟨g2, o2 + n * 40 + j, none⟩) (Nat.lt_of_lt_of_le hg2 hb.out.size)).trans (hr2' j z hj)
      clear b5 b6
      go_wp2_with fail
      refine hK.out _ _ (⟨hk1, hk2⟩) (fun hHeld => ?_)
      clear hK K
      refine wpAnyH_ready (rs := [9]) (by kernel_rfl) (by simp) ?_
      refine AllReadyH.cons (o := _) rfl (fun K hK => ?_) AllReadyH.nil
      go_simp
      refine hK.out _ _ hHeld (fun hHeld => ?_)
      clear hK K
      refine wpAnyH_done (by kernel_rfl) ?_ _
      go_wp2
      exact ⟨⟨n + 1, by omega, by go_num, HB6.out⟩, by simp [intOf]; omega⟩
    · go_wp2
      go_ret
      exact ⟨rfl, hb.out⟩
end Go.Proofs.YtpembmfpgolniaaDoor
