import Derived.Test.YtbnnfpjgjieaeaaDoorM5
namespace Go.Proofs.YtbnnfpjgjieaeaaDoor
open Go.RowKit
/-- a list of ints that is read -/
def RI (w : World) (v : Value) (zs : List Int) : Prop :=
  ∃ a c, v = .slice a zs.length c ∧ zs.length ≤ c ∧ (zs = [] ∨ ∃ g o, a = some ⟨g, o, none⟩ ∧ g < w.heap.size ∧ ∀ i, i < zs.length → w.cell? ⟨g, o + i, none⟩ = some (.int .i64 (zs.getD i 0)))
theorem RI.keep {w w' : World} {v : Value} {zs : List Int} (h : RI w v zs) (hb : Below w.heap.size w w') : RI w' v zs := by
  obtain ⟨a, c, rfl, hle, h⟩ := h
  refine ⟨a, c, rfl, hle, ?_⟩
  rcases h with h | ⟨g, o, h1, h2, h3⟩
  · exact .inl h
  · exact .inr ⟨g, o, h1, Nat.lt_of_lt_of_le h2 hb.size, fun i hi => (hb.cell (p := ⟨g, o + i, none⟩) h2).trans (h3 i hi)⟩
/-- the handshake of the law -/
abbrev h48 : List UInt8 := [1, 0, 0, 0, 0, 0, 0, 0, 2, 3, 0, 0, 0, 0, 0, 0, 0, 0, 0, 0, 0, 0, 0, 0, 0, 0, 0, 0, 4, 0, 0, 0, 0, 0, 0, 0, 0, 0, 0, 0, 0, 0, 0, 0, 0, 0, 0, 0]
theorem ownsRow_fr {S : Nat → Prop} {B e size n : Nat} {w w' : World} {v : Value} {xs : List Value} (h : w.ownsRow B e size v n xs) (fr : Fm.Fr S w w') (hs : ∀ g cs, w.heap[g]? = some (.cells cs e (0, 0)) → B ≤ g → v.ownBlock = some g → S g) : w'.ownsRow B e size v n xs := by
  refine ⟨h.1, ?_⟩
  rcases h.2 with h1 | ⟨g, cap, cur, rfl, h2, h3, h4⟩
  · exact .inl h1
  · exact .inr ⟨g, cap, cur, rfl, h2, (fr.block g (Array.getElem?_eq_some_iff.1 h3).1 (hs g cur h3 h2 rfl)).trans h3, h4⟩
/-- the blocks of a text that is owned -/
theorem OW.blk {B : Nat} {w : World} {v : Value} {l : List UInt8} {g : Nat} (h : OW B w v l) (hg : v.ownBlock = some g) : B ≤ g ∧ g < w.heap.size ∧ ∃ cs, w.heap[g]? = some (.cells cs 5 (0, 0)) := by
  rcases h.2 with ⟨rfl, _⟩ | ⟨k, cap, cur, rfl, h2, h3, h4⟩
  · simp [Value.ownBlock] at hg
  · simp [Value.ownBlock] at hg
    subst hg
    exact ⟨h2, (Array.getElem?_eq_some_iff.1 h3).1, cur, h3⟩
/-- a list of messages of which none lies where the reader holds its bytes -/
def Apart (hv : Value) (ns : List Mg) : Prop := ∀ x ∈ ns, ∀ g, hv.ownBlock = some g → x.m.d.ownBlock ≠ some g
theorem OMS.push {R : Nat} {w w' : World} {u hv : Value} {held : List UInt8} {ns : List Mg} (h : OMS (R + 1) w u ns) (hd : Apart hv ns) (how : OW (R + 1) w hv held) (fr : Fm.Fr (fun k => k ≠ R ∧ hv.ownBlock ≠ some k) w w') : OMS (R + 1) w' u ns := by
  have hty : ∀ {e : TypeId} {g : Nat} {cs : Array Value}, e ≠ 5 → w.heap[g]? = some (.cells cs e (0, 0)) → hv.ownBlock ≠ some g := by
    intro e g cs he hg hh
    obtain ⟨_, _, cs', h5⟩ := how.blk hh
    rw [hg] at h5
    simp at h5
    exact he h5.2
  refine ⟨ownsRow_fr h.1 fr (fun g cs hg hB _ => ⟨by omega, hty (by decide) hg⟩), fun x hx => ?_⟩
  obtain ⟨ok, d, hh, dl, hl⟩ := h.2 x hx
  refine ⟨ok, ownsRow_fr d fr (fun g cs hg hB hgb => ⟨by omega, fun e => hd x hx g e hgb⟩), ?_, dl, hl⟩
  obtain ⟨n, e, h1⟩ := hh
  exact ⟨n, e, ownsRow_fr h1 fr (fun g cs hg hB _ => ⟨by omega, hty (by decide) hg⟩)⟩
/-- the loop of the law: what has come of the stream -/
structure CI (w wr : World) (R : Nat) (hello : Bool) (bv : Value) (T : List UInt8) (ms : List Mg) (n m : Nat) (u : Value) (p s : Nat) (held : List UInt8) (hv : Value) (ns : List Mg) (k : Nat) : Prop where
  rk : Fm.RK wr R p s hv 0
  st : Fm.St p s held
  ow : OW (R + 1) wr hv held
  nil : held = [] → hv = .slice none 0 0
  o : OMS (R + 1) wr u ns
  ap : Apart hv ns
  mo : MsOf ns (encs (ms.take ns.length))
  nk : ns.length ≤ k
  kl : k ≤ ms.length
  tx : Fm.tx p s held ++ T.drop n = gt (p == 2) h48 ++ wirB (ms.drop k)
  met : m = if hello && !(p == 2) then 1 else 0
  two : (p == 2) = true → hello = true ∧ ns = [] ∧ k = 0
  nl : n ≤ T.length
  rb : Fm.RN (fun g => g < R) wr bv T
  b : Below w.heap.size w wr
  wl : w.heap.size ≤ R
theorem CI.below {w wr w' : World} {R : Nat} {hello : Bool} {bv : Value} {T : List UInt8} {ms : List Mg} {n m : Nat} {u : Value} {p s : Nat} {held : List UInt8} {hv : Value} {ns : List Mg} {k : Nat} (h : CI w wr R hello bv T ms n m u p s held hv ns k) (hb : Below wr.heap.size wr w') : CI w w' R hello bv T ms n m u p s held hv ns k :=
  ⟨(hb.block R h.rk.lt).trans h.rk, h.st, h.ow.grow hb, h.nil, h.o.grow hb, h.ap, h.mo, h.nk, h.kl, h.tx, h.met, h.two, h.nl, h.rb.move (fun _ x => x) (fun g _ hg _ => hb.block g hg), h.b.trans (hb.mono h.b.size), h.wl⟩
theorem CI.done {w wr : World} {R : Nat} {hello : Bool} {bv : Value} {T : List UInt8} {ms : List Mg} {n m : Nat} {u : Value} {p s : Nat} {held : List UInt8} {hv : Value} {ns : List Mg} {k : Nat} (h : CI w wr R hello bv T ms n m u p s held hv ns k) (hn : n = T.length) (hm : ∀ y ∈ ms, (encB y.m y.D y.hb).length ≤ 32768) : k = ms.length ∧ (p == 2) = false := by
  have hx := h.tx
  rw [hn, List.drop_length, List.append_nil] at hx
  have hl := congrArg List.length hx
  rcases h.st with ⟨rfl, h1, _⟩ | ⟨rfl, h1⟩ | ⟨rfl, h1, h2⟩
  · have : Fm.tx 2 s held = held := by simp [Fm.tx]
    rw [this, List.length_append] at hl
    have h3 : (gt ((2 : Nat) == 2) h48).length = 68 := rfl
    omega
  · have : Fm.tx 0 s held = held := by simp [Fm.tx]
    rw [this] at hl
    have e2 : gt ((0 : Nat) == 2) h48 ++ wirB (ms.drop k) = wirB (ms.drop k) := rfl
    rw [e2] at hl
    refine ⟨?_, rfl⟩
    cases hd : ms.drop k with
    | nil => have := List.drop_eq_nil_iff.1 hd; have := h.kl; omega
    | cons y l => rw [hd, wirB_cons, List.length_append, frm_len] at hl; omega
  · have e1 : Fm.tx 1 s held = be4 s ++ held := by simp [Fm.tx]
    have e2 : gt ((1 : Nat) == 2) h48 ++ wirB (ms.drop k) = wirB (ms.drop k) := rfl
    rw [e1, e2] at hx hl
    refine ⟨?_, rfl⟩
    cases hd : ms.drop k with
    | nil => rw [hd] at hl; rw [List.length_append, be4_len] at hl; simp [wirB] at hl
    | cons y l =>
      rw [hd, wirB_cons] at hx hl
      have hy := hm y (by have : y ∈ ms.drop k := by rw [hd]; simp
                          exact List.mem_of_mem_drop this)
      have hn2 := nm_pre (T0 := be4 s ++ held) (Z := []) (by rw [List.length_append, be4_len]; omega) (by rw [List.append_nil]; exact hx) hy
      rw [Fm.nm_be4 s held (by omega)] at hn2
      rw [List.length_append, List.length_append, frm_len, be4_len] at hl
      omega
theorem CI.push {w wr w' : World} {R : Nat} {hello : Bool} {bv : Value} {T : List UInt8} {ms : List Mg} {n m tn : Nat} {u : Value} {p s : Nat} {held : List UInt8} {hv : Value} {ns : List Mg} (h : CI w wr R hello bv T ms n m u p s held hv ns ns.length) (h1 : n ≤ tn) (h2 : tn ≤ T.length) (hm : ∀ y ∈ ms, (encB y.m y.D y.hb).length ≤ 32768)
    {mv bsv : Value} {er : Int} {met bs : List (List UInt8)} {h' : Bool} {r : List UInt8} {p' s' : Nat} {held' : List UInt8} {hv' : Value} (po : Fm.PO wr R (p == 2) (Fm.tx p s held ++ (T.drop n).take (tn - n)) hv mv bsv er met bs h' r p' s' held' hv' w') :
    er = 0 ∧ (met = [] ∨ (met = [h48] ∧ ns = [])) ∧ ∃ k, bs = encs ((ms.drop ns.length).take (k - ns.length)) ∧ CI w w' R hello bv T ms tn (m + met.length) u p' s' held' hv' ns k := by
  have e0 : (Fm.tx p s held ++ (T.drop n).take (tn - n)) ++ T.drop tn = gt (p == 2) h48 ++ wirB (ms.drop ns.length) := by
    rw [← h.tx, List.append_assoc]
    congr 1
    rw [show T.drop tn = (T.drop n).drop (tn - n) by rw [List.drop_drop]; congr 1; omega, List.take_append_drop]
  obtain ⟨he, j, hj, hbs, hr, hmet, hj0⟩ := rd_pre (hb := h48) rfl po.rd (ms.drop ns.length) (T.drop tn) e0 (fun y hy => hm y (List.mem_of_mem_drop hy))
  obtain ⟨q1, q2, q3⟩ := po.st he
  have hns : ns.length ≤ ms.length := h.kl
  rw [List.length_drop] at hj
  refine ⟨he, ?_, ns.length + j, by rw [Nat.add_sub_cancel_left]; exact hbs, ?_⟩
  · rcases hmet with ⟨a, _⟩ | ⟨a, b, _⟩
    · exact .inl a
    · exact .inr ⟨b, (h.two a).2.1⟩
  refine ⟨by have := po.rk; rw [he] at this; exact this, q1, po.ow, po.nil, h.o.push h.ap h.ow po.fr, ?_, h.mo, by omega, by omega, by rw [q3, hr, ← q2, List.drop_drop], ?_, ?_, h2, ?_, ?_, h.wl⟩
  · intro x hx g hg
    rcases po.at_ with a | a
    · exact h.ap x hx g (a ▸ hg)
    · have hge := a g hg
      intro hd
      have hB := ((h.o.2 x hx).d.blk hd).2.1
      omega
  · rw [← q2, h.met]
    rcases hmet with ⟨rfl, rfl⟩ | ⟨a, rfl, rfl⟩
    · rfl
    · rw [a, (h.two a).1]; rfl
  · intro hp2
    rw [← q2] at hp2
    rcases hmet with ⟨_, b⟩ | ⟨_, _, b⟩
    · rw [b] at hp2
      obtain ⟨c1, c2, c3⟩ := h.two hp2
      exact ⟨c1, c2, by rw [c3, hj0 (by rw [b]; exact hp2)]⟩
    · rw [b] at hp2; exact Bool.noConfusion hp2
  · refine h.rb.move (fun _ x => x) (fun g hg hlt _ => po.fr.block g hlt ⟨by omega, fun e => ?_⟩)
    have := (h.ow.blk e).1
    omega
  · refine ⟨po.fr.os.trans h.b.os, po.fr.tape.trans h.b.tape, po.fr.output.trans h.b.output, Nat.le_trans h.b.size po.fr.size, fun k hk => (po.fr.block k (Nat.lt_of_lt_of_le hk h.b.size) ⟨by have := h.wl; omega, fun e => ?_⟩).trans (h.b.block k hk)⟩
    have := (h.ow.blk e).1
    have := h.wl
    omega
theorem CI.app {w wr w' : World} {R : Nat} {hello : Bool} {bv : Value} {T : List UInt8} {ms : List Mg} {n m : Nat} {u u' : Value} {p s : Nat} {held : List UInt8} {hv : Value} {ns : List Mg} {k : Nat} {mm : Mg} (h : CI w wr R hello bv T ms n m u p s held hv ns k) (ho : OMS (R + 1) w' u' (ns ++ [mm])) (hb : Below (R + 1) wr w')
    (hr : ∀ (k : Nat) (cs : Array Value) (t : TypeId), wr.heap[k]? = some (.cells cs t (0, 0)) → t ≠ 47 → w'.heap[k]? = some (.cells cs t (0, 0))) (ha : ∀ g, hv.ownBlock = some g → mm.m.d.ownBlock ≠ some g) (hm : MsOf (ns ++ [mm]) (encs (ms.take (ns.length + 1)))) (hk : ns.length + 1 ≤ k) : CI w w' R hello bv T ms n m u' p s held hv (ns ++ [mm]) k := by
  have hlen : (ns ++ [mm]).length = ns.length + 1 := by simp
  refine ⟨(hb.block R (Nat.lt_succ_self R)).trans h.rk, h.st, ownsRow_rows (by decide) h.ow hr, h.nil, ho, ?_, by rw [hlen]; exact hm, by rw [hlen]; exact hk, h.kl, h.tx, h.met, ?_, h.nl, h.rb.move (fun _ x => x) (fun g hg _ _ => hb.block g (by omega)), ?_, h.wl⟩
  · intro x hx g hg
    rcases List.mem_append.1 hx with hx | hx
    · exact h.ap x hx g hg
    · simp at hx; subst hx; exact ha g hg
  · intro h2
    have := (h.two h2).2.2
    omega
  · have hwl := h.wl
    exact ⟨hb.os.trans h.b.os, hb.tape.trans h.b.tape, hb.output.trans h.b.output, Nat.le_trans h.b.size hb.size, fun k hk => (hb.block k (by omega)).trans (h.b.block k hk)⟩
theorem body_at {ms : List Mg} {bs : List (List UInt8)} {b : List UInt8} {k0 c q : Nat} (hbs : bs = encs ((ms.drop k0).take c)) (hq : bs[q]? = some b) : ∃ y, ms[k0 + q]? = some y ∧ b = encB y.m y.D y.hb := by
  rw [hbs] at hq
  unfold encs at hq
  rw [List.getElem?_map] at hq
  cases hy : ((ms.drop k0).take c)[q]? with
  | none => rw [hy] at hq; simp at hq
  | some y =>
    rw [hy] at hq
    simp at hq
    refine ⟨y, ?_, hq.symm⟩
    have h1 := (List.getElem?_eq_some_iff.1 hy).1
    rw [List.length_take] at h1
    rw [List.getElem?_take_of_lt (by omega), List.getElem?_drop] at hy
    exact hy
theorem encs_take {ms : List Mg} {l : Nat} {y : Mg} (h : ms[l]? = some y) : encs (ms.take (l + 1)) = encs (ms.take l) ++ [encB y.m y.D y.hb] := by
  rw [List.take_add_one, h]
  unfold encs
  rw [List.map_append]
  rfl
theorem RN.cut {S : Nat → Prop} {w : World} {a : Option Addr} {c m n : Nat} {l : List UInt8} (h : Fm.RN S w (.slice a l.length c) l) (h1 : m ≤ n) (h2 : n ≤ l.length) : Fm.RN S w (.slice (if c = m then a else a.map (·.add m)) (n - m) (c - m)) ((l.drop m).take (n - m)) := by
  have hln : ((l.drop m).take (n - m)).length = n - m := by rw [List.length_take, List.length_drop]; omega
  obtain ⟨a', c', e, hle, h⟩ := h
  simp only [Value.slice.injEq, true_and] at e
  obtain ⟨rfl, rfl⟩ := e
  refine ⟨_, _, by rw [hln], by rw [hln]; omega, ?_⟩
  by_cases h0 : n - m = 0
  · exact .inl (List.length_eq_zero_iff.1 (by rw [hln]; exact h0))
  rcases h with rfl | ⟨g, o, rfl, hS, hg, h⟩
  · simp at h2; omega
  refine .inr ⟨g, o + m, ?_, hS, hg, fun i hi => ?_⟩
  · rw [if_neg (by omega)]; simp [Addr.add]
  · rw [hln] at hi
    rw [byt_take _ _ _ hi, byt_drop, Nat.add_assoc]
    exact h (m + i) (by omega)
theorem slice_to (va : Option Addr) (vn vc n tn : Nat) (tz : Int) (ht : tz = (tn : Int)) (h1 : n ≤ tn) (h2 : tn ≤ vn) (h3 : vn ≤ vc) (hv : va = none → vc = 0) (w : World) :
    (Instr.sliceAt 26 (.slice va vn vc) (some (.int .i64 (n : Int))) (some (.int .i64 tz)) none).run Tryd.prog w = .ok (.slice (if vc = n then va else va.map (·.add n)) (tn - n) (vc - n)) w := by
  subst ht
  have hu : Tryd.prog.underlying 26 = some (.slice 5) := Tryd.underlying26
  cases va with
  | none =>
    have h0 := hv rfl
    have hn : n = 0 := by omega
    have ht : tn = 0 := by omega
    subst h0 hn ht
    simp [Instr.sliceAt, run_underlying hu, go_sem]
  | some a =>
    by_cases hc : vc = n
    · have hn : n = tn := by omega
      subst hc
      subst hn
      simp [Instr.sliceAt, run_underlying hu, go_sem]
    · have i4 : tn ≤ vc := by omega
      simp [Instr.sliceAt, run_underlying hu, go_sem, hc, h1, i4]
theorem OW.cap {B : Nat} {w : World} {a : Option Addr} {n c : Nat} {l : List UInt8} (h : OW B w (.slice a n c) l) : (a = none → c = 0) ∧ n ≤ c := by
  rcases h.2 with ⟨e, h0⟩ | ⟨k, cap, cur, e, h2, h3, h4, _⟩
  · simp only [Value.slice.injEq] at e
    obtain ⟨rfl, rfl, rfl⟩ := e
    exact ⟨fun _ => rfl, Nat.le_refl _⟩
  · simp only [Value.slice.injEq] at e
    obtain ⟨rfl, rfl, rfl⟩ := e
    exact ⟨fun h => by simp at h, h4⟩
end Go.Proofs.YtbnnfpjgjieaeaaDoor
