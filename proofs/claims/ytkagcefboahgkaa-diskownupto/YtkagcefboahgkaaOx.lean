import Derived.Test.YtkagcefboahgkaaGw
import Derived.Test.YtkagcefboahgkaaIs
namespace Go.Proofs.Ytkagcefboahgkaa
open Go.RowKit
theorem room_of {B : Nat} {w : World} {v : Value} {dl : List UInt8} {dn : Nat} (h : OW B w v (dl ++ [201, 202, 203])) (hn : dn = dl.length) : ∃ G cap, B ≤ G ∧ OW B w (.slice (some ⟨G, 0, none⟩) dn cap) dl ∧ dn + 3 ≤ cap ∧ w.cell? ⟨G, dn, none⟩ = some (.int .u8 201) ∧ w.cell? ⟨G, dn + 1, none⟩ = some (.int .u8 202) ∧ w.cell? ⟨G, dn + 2, none⟩ = some (.int .u8 203) ∧ v = .slice (some ⟨G, 0, none⟩) (dn + 3) cap := by
  subst hn
  have hr := h.rb
  rcases h.2 with ⟨_, h0⟩ | ⟨g, cap, cur, rfl, h2, h3, h4, h5, h6, h7⟩
  · simp at h0
  obtain ⟨a', c', e, _, hh⟩ := hr
  simp only [Value.slice.injEq] at e
  obtain ⟨rfl, _, _⟩ := e
  rcases hh with hh | ⟨g', o', e', _, hh⟩
  · simp at hh
  simp only [Option.some.injEq, Addr.mk.injEq] at e'
  obtain ⟨rfl, rfl, _⟩ := e'
  simp only [List.length_append, List.length_cons, List.length_nil, Nat.zero_add] at *
  have q0 := hh dl.length (by omega)
  have q1 := hh (dl.length + 1) (by omega)
  have q2 := hh (dl.length + 2) (by omega)
  refine ⟨g, cap, h2, ⟨by simp [Lib.byteCells], .inr ⟨g, cap, cur, rfl, h2, h3, by omega, h5, h6, ?_⟩⟩, by omega, ?_, ?_, ?_, rfl⟩
  · have := congrArg (List.take dl.length) h7
    rw [List.take_take, bcl_append, List.take_append_of_le_length (by rw [bcl_len]; exact Nat.le_refl _)] at this
    rw [Nat.min_eq_left (by omega)] at this
    rw [Nat.mul_one, this, List.take_of_length_le (by rw [bcl_len]; exact Nat.le_refl _)]
  · rw [q0]; simp [byt]
  · rw [q1]; simp [byt]
  · rw [q2]; simp [byt]
theorem OW.blk {B : Nat} {w : World} {v : Value} {l : List UInt8} (h : OW B w v l) : ∀ g, v.ownBlock = some g → B ≤ g ∧ g < w.heap.size := fun g hg => World.ownsRow.lt h g hg
theorem OW.at {B : Nat} {w : World} {g n cap : Nat} {l : List UInt8} (h : OW B w (.slice (some ⟨g, 0, none⟩) n cap) l) (k : Nat) (hk : k < l.length) : w.cell? ⟨g, k, none⟩ = some (.int .u8 ((byt l k).toNat : Int)) ∧ w.frozen? ⟨g, k, none⟩ = false := by
  constructor
  · obtain ⟨a', c', e, _, hh⟩ := h.rb
    simp only [Value.slice.injEq] at e
    obtain ⟨rfl, _, _⟩ := e
    rcases hh with hh | ⟨g', o', e', _, hh⟩
    · subst hh; simp at hk
    simp only [Option.some.injEq, Addr.mk.injEq] at e'
    obtain ⟨rfl, rfl, _⟩ := e'
    have := hh k hk
    rwa [Nat.zero_add] at this
  · rcases h.2 with ⟨e, _⟩ | ⟨g', cap', cur, e, _, h3, _⟩
    · cases e
    · cases e
      simp [World.frozen?, h3]
theorem OW.put {B : Nat} {w : World} {g n cap : Nat} {l : List UInt8} (h : OW B w (.slice (some ⟨g, 0, none⟩) n cap) l) (k : Nat) (c : UInt8) : OW B (w.setCell ⟨g, k, none⟩ (.int .u8 (c.toNat : Int))) (.slice (some ⟨g, 0, none⟩) n cap) (l.set k c) := by
  rcases h.2 with ⟨e, _⟩ | ⟨g', cap', cur, e, h2, h3, h4, h5, h6, h7⟩
  · cases e
  simp only [Value.slice.injEq, Option.some.injEq, Addr.mk.injEq] at e
  obtain ⟨⟨rfl, _⟩, rfl, rfl⟩ := e
  refine ⟨by simp [Lib.byteCells], .inr ⟨g, cap, cur.setIfInBounds k (.int .u8 (c.toNat : Int)), by rw [List.length_set], h2, heap_setCell_same w g k cur 5 _ h3, by rw [List.length_set]; exact h4, h5, by simpa using h6, ?_⟩⟩
  rw [List.length_set, Array.toList_setIfInBounds, List.take_set, h7]
  simp [Lib.byteCells, List.map_set]
/-- a list of bytes that is being written over: it stays a list of so many bytes, all else stays -/
structure Sp (w0 : World) (B : Nat) (g n cap : Nat) (wr : World) : Prop where
  ow : ∃ m : List UInt8, m.length = n ∧ OW B wr (.slice (some ⟨g, 0, none⟩) n cap) m
  fr : Fr (fun k => k ≠ g) w0 wr
theorem Sp.start {w : World} {B g n cap : Nat} {l : List UInt8} (h : OW B w (.slice (some ⟨g, 0, none⟩) n cap) l) (hn : l.length = n) : Sp w B g n cap w := ⟨⟨l, hn, h⟩, Fr.refl _ _⟩
theorem Sp.at {w0 wr : World} {B g n cap : Nat} (h : Sp w0 B g n cap wr) (k : Nat) (hk : k < n) : ∃ x : Int, 0 ≤ x ∧ x < 256 ∧ wr.cell? ⟨g, k, none⟩ = some (.int .u8 x) ∧ wr.frozen? ⟨g, k, none⟩ = false ∧ ∀ z : Int, 0 ≤ z → z < 256 → Sp w0 B g n cap (wr.setCell ⟨g, k, none⟩ (.int .u8 z)) := by
  obtain ⟨m, hm, ho⟩ := h.ow
  obtain ⟨q1, q2⟩ := ho.at k (by omega)
  refine ⟨_, by omega, by have := (byt m k).toNat_lt; omega, q1, q2, fun z h0 h1 => ⟨⟨m.set k (UInt8.ofNat z.toNat), by rw [List.length_set]; exact hm, ?_⟩, h.fr.setCell g k _ (fun _ x => x rfl)⟩⟩
  have ez : z = (((UInt8.ofNat z.toNat).toNat : Nat) : Int) := by rw [UInt8.toNat_ofNat', Nat.mod_eq_of_lt (by omega)]; omega
  have := ho.put k (UInt8.ofNat z.toNat)
  rw [← ez] at this
  exact this
theorem wide_of {B : Nat} {w : World} {v : Value} {dl : List UInt8} (hl : dl.length = 64) (h : w.ownsRow B 5 1 v 66 (Lib.byteCells dl ++ [.int .u8 204, .int .u8 205])) : ∃ G cap, B ≤ G ∧ OW B w (.slice (some ⟨G, 0, none⟩) 64 cap) dl ∧ 66 ≤ cap ∧ w.cell? ⟨G, 64, none⟩ = some (.int .u8 204) ∧ w.cell? ⟨G, 65, none⟩ = some (.int .u8 205) ∧ v = .slice (some ⟨G, 0, none⟩) 66 cap := by
  rcases h.2 with ⟨_, h0⟩ | ⟨g, cap, cur, rfl, h2, h3, h4, h5, h6, h7⟩
  · simp at h0
  have key : ∀ i, i < 66 → cur[i]? = (Lib.byteCells dl ++ [.int .u8 204, .int .u8 205])[i]? := fun i hi => by
    rw [← h7, List.getElem?_take_of_lt (by omega), Array.getElem?_toList]
  refine ⟨g, cap, h2, ⟨by simp [Lib.byteCells], .inr ⟨g, cap, cur, by rw [hl], h2, h3, by omega, h5, h6, ?_⟩⟩, h4, ?_, ?_, rfl⟩
  · have := congrArg (List.take 64) h7
    rw [List.take_take, List.take_append_of_le_length (by rw [bcl_len]; omega)] at this
    rw [hl, Nat.mul_one]
    rw [Nat.min_eq_left (by omega)] at this
    rw [this, List.take_of_length_le (by rw [bcl_len]; omega)]
  · rw [cellH h3, key 64 (by omega), List.getElem?_append_right (by rw [bcl_len]; omega), bcl_len, hl]; rfl
  · rw [cellH h3, key 65 (by omega), List.getElem?_append_right (by rw [bcl_len]; omega), bcl_len, hl]; rfl
theorem append_full {ops : Array Oper} {rest : List Oper} {o : Oper} {a : Act} {Q : Exit → Act → World → Prop} {w : World} (i5 : TypeInfo) (hF : Try.prog.info? 5 = some i5 ∧ i5.zero = some (.int .u8 0) ∧ i5.size = 1 ∧ i5.bytes = 1) (hgd : o.guard = none) (s x : Operand)
    (ho : o.op = .call { callee := .builtin .append, args := #[s, x], argTypes := #[22, 22] }) (g : Nat) (dl : List UInt8) (hl : dl.length = 64) (hs : a.eval s = .slice (some ⟨g, 0, none⟩) 64 64) (hr : RB w (.slice (some ⟨g, 0, none⟩) 64 64) dl) (b : Nat) (hx : a.eval x = .slice (some ⟨b, 0, none⟩) 2 2) (hc0 : w.cell? ⟨b, 0, none⟩ = some (.int .u8 204)) (hc1 : w.cell? ⟨b, 1, none⟩ = some (.int .u8 205))
    (h : ∀ v' w', w'.ownsRow w.heap.size 5 1 v' 66 (Lib.byteCells dl ++ [.int .u8 204, .int .u8 205]) → Below w.heap.size w w' → wpList Try.prog ops Q rest (a.put o.dst v') w') : wpList Try.prog ops Q (o :: rest) a w := by
  refine wpList_append_grows w hgd s x 22 ho 5 i5 _ 1 1 Try.underlying22 hF.1 hF.2.1 hF.2.2.1 hF.2.2.2 rfl (by omega) (some ⟨g, 0, none⟩) 64 64 (Lib.byteCells dl) hs (fun h => by cases h) (by rw [bcl_len, hl]) (fun b' hb j u hj => ?_) ⟨b, 0, none⟩ 2 2 [.int .u8 204, .int .u8 205] hx rfl (fun j u hj => ?_) (fun u hu => ?_) (by omega) (by unfold maxLen; omega) (by omega) (fun v' w' r1 r2 => h v' w' r1 ⟨r2.os, r2.tape, r2.output, r2.size, fun k hk => r2.block k hk (by simp)⟩)
  · cases hb
    have hj' : j < dl.length := by
      have := (List.getElem?_eq_some_iff.1 hj).1
      rwa [bcl_len] at this
    obtain ⟨a', c', e, _, hh⟩ := hr
    simp only [Value.slice.injEq] at e
    obtain ⟨rfl, _, _⟩ := e
    rcases hh with hh | ⟨g', o', e', _, hh⟩
    · subst hh; simp at hl
    simp only [Option.some.injEq, Addr.mk.injEq] at e'
    obtain ⟨rfl, rfl, _⟩ := e'
    rw [Addr.add_lit, hh j hj', getD_byt dl j hj']
    simpa [Lib.byteCells, List.getElem?_eq_getElem hj'] using hj
  · match j, hj with
    | 0, hj => simp at hj; subst hj; simpa [Addr.add] using hc0
    | 1, hj => simp at hj; subst hj; simpa [Addr.add] using hc1
  · simp at hu; rcases hu with rfl | rfl <;> rfl
/-- the loop of the writes -/
structure WL (w w4 w5 w14 w15 : World) (p : Nat) (L : List UInt8) (lv : Value) (ls : List Wv) (i : Nat) (wr : World) : Prop where
  dk : DK (fun k => (w4.heap.size ≤ k ∧ k < w5.heap.size) ∨ w15.heap.size ≤ k) wr p ⟨L, (ls.take i).map mkW, none⟩
  ol : OWv w14.heap.size wr lv ls
  bl : Below w.heap.size w wr
  sz : w15.heap.size ≤ wr.heap.size
  lo : ∀ g, lv.ownBlock = some g → w14.heap.size ≤ g ∧ g < w15.heap.size
  s5 : w5.heap.size ≤ w14.heap.size
  s4 : w.heap.size ≤ w4.heap.size
  sf : w.heap.size ≤ w15.heap.size
theorem Below.of_fr {B : Nat} {w wr w' : World} {T : Nat → Prop} (h : Below B w wr) (f : Fr T wr w') (hT : ∀ k, k < B → T k) (hB : B ≤ w.heap.size) : Below B w w' :=
  ⟨f.os.trans h.os, f.tape.trans h.tape, f.output.trans h.output, Nat.le_trans h.size f.size, fun k hk => (f.block k (by have := h.size; omega) (hT k hk)).trans (h.block k hk)⟩
/-- one more write -/
theorem WL.next {w w4 w5 w14 w15 wr w17 w18 w20 wz : World} {p : Nat} {L : List UInt8} {lv : Value} {ls : List Wv} {i : Nat} {u : Wv} {Gw cap B : Nat} (h : WL w w4 w5 w14 w15 p L lv ls i wr) (hu : ls[i]? = some u) (b17 : Below wr.heap.size wr w17)
    (dk : DK (fun k => (((w4.heap.size ≤ k ∧ k < w5.heap.size) ∨ w15.heap.size ≤ k) ∧ k < wr.heap.size) ∨ w17.heap.size ≤ k) w18 p ⟨L, (ls.take i).map mkW ++ [mkW u], none⟩)
    (fr : Fr (fun k => ¬ (((w4.heap.size ≤ k ∧ k < w5.heap.size) ∨ w15.heap.size ≤ k) ∧ k < wr.heap.size)) w17 w18) (b20 : Below w18.heap.size w18 w20) (hG : wr.heap.size ≤ Gw ∧ Gw < w17.heap.size) (sp : Sp w20 B Gw 64 cap wz) : WL w w4 w5 w14 w15 p L lv ls (i + 1) wz := by
  have hs18 := fr.size
  have hs17 := b17.size
  have hsz := h.sz
  have h5 := h.s5
  have h4 := h.s4
  have hf := h.sf
  refine ⟨?_, ?_, ?_, ?_, h.lo, h.s5, h.s4, h.sf⟩
  · have e : (ls.take (i + 1)).map mkW = (ls.take i).map mkW ++ [mkW u] := by rw [List.take_add_one, hu]; simp
    rw [e]
    have d20 := dk.below b20
    have dz := d20.fr (sp.fr.mono (fun k hk hs => by rcases hs with hs | hs <;> omega))
    exact dz.sub (fun k hk hs => by
      rcases hs with hs | hs
      · exact hs.1
      · right; omega)
  · have f1 : Fr (fun k => w14.heap.size ≤ k ∧ k < w15.heap.size) wr wz := by
      have g1 : Fr (fun k => w14.heap.size ≤ k ∧ k < w15.heap.size) wr w17 := Fr.of_below b17
      have g2 := g1.trans fr (fun k hk hs => by omega)
      have g3 := g2.trans (Fr.of_below (S := fun _ => True) b20) (fun _ _ _ => trivial)
      exact g3.trans sp.fr (fun k hk hs => by omega)
    exact ownsRow_fr h.ol f1 h.lo
  · have g1 : Fr (fun k => k < w.heap.size) wr w17 := Fr.of_below b17
    have g2 := g1.trans fr (fun k hk hs => by omega)
    have g3 := g2.trans (Fr.of_below (S := fun _ => True) b20) (fun _ _ _ => trivial)
    have hb := h.bl.size
    have g4 := g3.trans sp.fr (fun k hk hs => by omega)
    exact Below.of_fr h.bl g4 (fun k hk => hk) (Nat.le_refl _)
  · have := b20.size
    have := sp.fr.size
    omega
end Go.Proofs.Ytkagcefboahgkaa
