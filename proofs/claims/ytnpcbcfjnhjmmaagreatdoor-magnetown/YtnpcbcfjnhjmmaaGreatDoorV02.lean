import Derived.Test.YtnpcbcfjnhjmmaaGreatDoorV00
namespace Go.Proofs.YtnpcbcfjnhjmmaaGreatDoor
open Go.Shelf Go.RowKit
set_option maxRecDepth 100000 in
theorem dg_index (kd : IntKind) (hk : kd = .i64 ∨ kd = .u8) (k : Nat) (h1 : k < 16) (w : World) :
    (Instr.index 9 (.string { data := #[48, 49, 50, 51, 52, 53, 54, 55, 56, 57, 65, 66, 67, 68, 69, 70] }) (.int kd (k : Int))).run Tryz.prog w = .ok (.int .u8 ((dg k).toNat : Int)) w := by
  have : k = 0 ∨ k = 1 ∨ k = 2 ∨ k = 3 ∨ k = 4 ∨ k = 5 ∨ k = 6 ∨ k = 7 ∨ k = 8 ∨ k = 9 ∨ k = 10 ∨ k = 11 ∨ k = 12 ∨ k = 13 ∨ k = 14 ∨ k = 15 := by omega
  rcases hk with rfl | rfl <;> (rcases this with rfl | rfl | rfl | rfl | rfl | rfl | rfl | rfl | rfl | rfl | rfl | rfl | rfl | rfl | rfl | rfl <;> rfl)
set_option maxRecDepth 100000 in
theorem and15_0 : ∀ n : Fin 256, bits .and .u8 (n.val : Int) 15 = (n.val : Int) % 16 := by decide +kernel
set_option maxRecDepth 100000 in
theorem and15 (x : UInt8) : bits .and .u8 (x.toNat : Int) 15 = ((x.toNat % 16 : Nat) : Int) := by
  have := and15_0 ⟨x.toNat, x.toNat_lt⟩
  rw [this]; simp
set_option maxRecDepth 100000 in
theorem sg_len (x : UInt8) : (sg x).length ≤ 3 := by unfold sg; split <;> simp
set_option maxRecDepth 100000 in
theorem esc_len (l : List UInt8) : (esc l).length ≤ 3 * l.length := by
  induction l with
  | nil => simp [esc]
  | cons x l ih => have := sg_len x; simp [esc] at ih ⊢; omega
set_option maxRecDepth 100000 in
theorem esc_snoc (s : ByteArray) (k : Nat) (h : k < s.size) : esc (s.data.toList.take (k + 1)) = esc (s.data.toList.take k) ++ sg s[k] := by
  rw [List.take_add_one, bget s k h]; simp [esc]
set_option maxRecDepth 100000 in
theorem esc_take_len (s : ByteArray) (k : Nat) : (esc (s.data.toList.take k)).length ≤ 3 * k := by
  have := esc_len (s.data.toList.take k)
  rw [List.length_take] at this; omega
set_option maxRecDepth 100000 in
theorem ret_s {a b : ByteArray} (h : a = b) : Ending.returned (.string a) = .returned (.string b) := by rw [h]
set_option maxRecDepth 100000 in
set_option maxHeartbeats 1000000 in
theorem escape (s : ByteArray) (w : World) (hT : BT w) (hs : 3 * s.size ≤ 140737488355328) :
    Calls Tryz.prog 53 #[.string s] w fun e w' => e = .returned (.string ⟨(esc s.data.toList).toArray⟩) ∧ Below w.heap.size w w' := by
  have HT : Hid (BT w) := hT
  clear hT
  go_enter Tryz.func53, Tryz.ntmps53
  go_wp2
  go_loopw [8] (fun t wr => ∃ k : Nat, k ≤ s.size ∧ t = .int .i64 k ∧ Hid (BI w.heap.size w.heap.size (esc (s.data.toList.take k)) wr) ∧ Hid (Below w.heap.size w wr)) (fun t _ => s.size - (intOf t).toNat)
  case atStart => exact ⟨0, Nat.zero_le _, rfl, (show BI w.heap.size w.heap.size (esc (s.data.toList.take 0)) _ from Lib.fresh_isBuilder 94 5 w), ((Below.refl _ _).alloc (Nat.le_refl _) _ : Below w.heap.size w _)⟩
  case round =>
    obtain ⟨k, hk, rfl, hbi, hbel⟩ := hrel
    by_cases hlt : k < s.size
    · have hx2 := index_s s k hlt k rfl
      have hlt' : (k : Int) < (s.size : Int) := by omega
      have HE : Hid (esc (s.data.toList.take (k + 1)) = esc (s.data.toList.take k) ++ sg s[k]) := esc_snoc s k hlt
      have HL : Hid ((esc (s.data.toList.take k)).length ≤ 3 * k) := esc_take_len s k
      generalize s[k] = x at *
      have hd1 := dg_index .u8 (.inr rfl) (x.toNat / 16) (by have := x.toNat_lt; omega)
      have hd2 := dg_index .u8 (.inr rfl) (x.toNat % 16) (by omega)
      rw [← and15 x] at hd2
      rw [show ((x.toNat / 16 : Nat) : Int) = (x.toNat : Int) / 16 by simp] at hd1
      generalize esc (s.data.toList.take k) = l at *
      go_wp2_with fail
      refine (isBare x _ (HT.out.keep hbel.out)).mono ?_
      rintro e w1 ⟨rfl, rfl⟩
      cases hb : isB x
      · have HE2 : Hid (esc (s.data.toList.take (k + 1)) = l ++ [37, dg (x.toNat / 16), dg (x.toNat % 16)]) := by rw [HE.out, sg, hb]; rfl
        clear HE
        generalize dg (x.toNat / 16) = d1 at *
        generalize dg (x.toNat % 16) = d2 at *
        go_wp2_with fail
        refine (writeByte _ _ l 37 _ hbi.out (by have := HL.out; omega) hbel.out.size).mono ?_
        rintro e w2 ⟨rfl, h2, b2⟩
        have HI2 : Hid (BI w.heap.size w.heap.size (l ++ [37]) w2) := h2
        have HB2 : Hid (Below w.heap.size w w2) := hbel.out.trans b2
        clear h2 b2 hbi hbel
        go_wp2_with fail
        refine (writeByte _ _ _ d1 _ HI2.out (by have := HL.out; simp; omega) HB2.out.size).mono ?_
        rintro e w3 ⟨rfl, h2, b2⟩
        have HI3 : Hid (BI w.heap.size w.heap.size (l ++ [37] ++ [d1]) w3) := h2
        have HB3 : Hid (Below w.heap.size w w3) := HB2.out.trans b2
        clear h2 b2 HI2 HB2
        go_wp2_with fail
        refine (writeByte _ _ _ d2 _ HI3.out (by have := HL.out; simp; omega) HB3.out.size).mono ?_
        rintro e w4 ⟨rfl, h2, b2⟩
        have HI4 : Hid (BI w.heap.size w.heap.size (esc (s.data.toList.take (k + 1))) w4) := by
          have h3 : BI w.heap.size w.heap.size (esc (s.data.toList.take (k + 1))) w4 := by rw [HE2.out]; simpa using h2
          exact h3
        have HB4 : Hid (Below w.heap.size w w4) := HB3.out.trans b2
        clear h2 b2 HI3 HB3 HE2
        go_wp2
        go_roundw
        case rel => exact ⟨k + 1, by omega, by go_num, HI4, HB4⟩
        case measure => simp [intOf]; omega
      · have HE2 : Hid (esc (s.data.toList.take (k + 1)) = l ++ [x]) := by rw [HE.out, sg, hb]; rfl
        clear HE hd1 hd2
        go_wp2_with fail
        refine (writeByte _ _ l x _ hbi.out (by have := HL.out; omega) hbel.out.size).mono ?_
        rintro e w2 ⟨rfl, h2, b2⟩
        have HI2 : Hid (BI w.heap.size w.heap.size (esc (s.data.toList.take (k + 1))) w2) := by rw [HE2.out]; exact h2
        have HB2 : Hid (Below w.heap.size w w2) := hbel.out.trans b2
        clear h2 b2 hbi hbel HE2
        go_wp2
        go_roundw
        case rel => exact ⟨k + 1, by omega, by go_num, HI2, HB2⟩
        case measure => simp [intOf]; omega
    · have hkl : k = s.size := by omega
      subst hkl
      have HI : Hid (BI w.heap.size w.heap.size (esc s.data.toList) wr) := by
        have := hbi.out
        rwa [List.take_of_length_le (by simp)] at this
      clear hbi
      go_wp2_with fail
      refine (bString _ _ _ _ HI.out hbel.out.size).mono ?_
      rintro e w2 ⟨rfl, b2⟩
      have HB : Hid (Below w.heap.size w w2) := hbel.out.trans b2
      clear b2 hbel
      go_wp2
      go_ret
      exact ⟨rfl, HB.out⟩
end Go.Proofs.YtnpcbcfjnhjmmaaGreatDoor
namespace Go.Proofs.YtnpcbcfjnhjmmaaGreatDoor
open Go.Shelf Go.RowKit
theorem step_append_own {P : Program} {ops : Array Oper} {o : Oper} {a : Act} {w : World} {K : Act → World → Prop} {Q : Exit → Act → World → Prop} {E : Prop}
    (hg : o.guard = none) (s x : Operand) (t : TypeId) (hop : o.op = Op.call { callee := Callee.builtin Builtin.append, args := #[s, x], argTypes := #[t, t] })
    (base : Nat) (e : TypeId) (i : TypeInfo) (z : Value) (size bytes : Nat) (ht : P.underlying t = some (.slice e)) (hi : P.info? e = some i) (hz : i.zero = some z)
    (hsize : i.size = size) (hby : i.bytes = bytes) (hzs : z.cells.size = size) (hsz : 0 < size)
    (v : Value) (n : Nat) (xs : List Value) (hs : a.eval s = v) (hown : w.ownsRow base e size v n xs)
    (ad : Addr) (m c : Nat) (news : List Value) (hx : a.eval x = .slice (some ad) m c) (hl : news.length = m * size) (hnews : ∀ j u, news[j]? = some u → w.cell? (ad.add j) = some u) (h1 : ∀ u ∈ news, u.oneCell' = true)
    (h63 : n + m ≤ maxLen) (hbytes : (n + m) * bytes ≤ 140737488355328) (hbase : base ≤ w.heap.size)
    (h : ∀ v' w', w'.ownsRow base e size v' (n + m) (xs ++ news) → w.grownBy w' v.ownBlock → K (a.put o.dst v') w') :
    if Region.wanted o (yielded ops a.tmps) = true then Oper.wp P o a w K Q else E := by
  have hw : Region.wanted o (yielded ops a.tmps) = true := by simp [Region.wanted, hg]
  rw [if_pos hw]
  exact wp_append_own w s x t hop base e i z size bytes ht hi hz hsize hby hzs hsz v n xs hs hown ad m c news hx hl hnews h1 h63 hbytes hbase fun v' w' h2 h3 _ => h v' w' h2 h3
theorem cell_three (w : World) (x y z : Value) (e : TypeId) : ∀ j u, ([x, y, z] : List Value)[j]? = some u → (w.alloc (.cells #[x, y, z] e)).cell? ((⟨w.heap.size, 0, none⟩ : Addr).add j) = some u := by
  intro j u h
  match j, h with
  | 0, h => simp at h; subst h; simp [Addr.add]
  | 1, h => simp at h; subst h; simp [Addr.add]
  | 2, h => simp at h; subst h; simp [Addr.add]
theorem OW.lt {B : Nat} {w : World} {v : Value} {l : List UInt8} (h : OW B w v l) : ∀ k, v.ownBlock = some k → B ≤ k := fun k hk => (World.ownsRow.lt h k hk).1
end Go.Proofs.YtnpcbcfjnhjmmaaGreatDoor
