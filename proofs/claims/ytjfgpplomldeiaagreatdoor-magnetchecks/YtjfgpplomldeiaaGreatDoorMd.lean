import Derived.Test.YtjfgpplomldeiaaGreatDoorMc
namespace Go.Proofs.YtjfgpplomldeiaaGreatDoor
open Go.Shelf Go.RowKit
theorem step_append_own {P : Program} {ops : Array Oper} {o : Oper} {a : Act} {w : World} {K : Act → World → Prop} {Q : Exit → Act → World → Prop} {E : Prop}
    (hg : o.guard = none) (s x : Operand) (t : TypeId) (hop : o.op = Op.call { callee := Callee.builtin Builtin.append, args := #[s, x], argTypes := #[t, t] })
    (base : Nat) (e : TypeId) (i : TypeInfo) (z : Value) (size bytes : Nat) (ht : P.underlying t = some (.slice e)) (hi : P.info? e = some i) (hz : i.zero = some z)
    (hsize : i.size = size) (hby : i.bytes = bytes) (hzs : z.cells.size = size) (hsz : 0 < size)
    (v : Value) (n : Nat) (xs : List Value) (hs : a.eval s = v) (hown : w.ownsRow base e size v n xs)
    (ad : Addr) (m c : Nat) (news : List Value) (hx : a.eval x = .slice (some ad) m c) (hl : news.length = m * size) (hnews : ∀ j u, news[j]? = some u → w.cell? (ad.add j) = some u) (h1 : ∀ u ∈ news, u.oneCell' = true)
    (h63 : n + m ≤ maxLen) (hbytes : (n + m) * bytes ≤ 140737488355328) (hbase : base ≤ w.heap.size)
    (h : ∀ v' w', w'.ownsRow base e size v' (n + m) (xs ++ news) → w.grownBy w' v.ownBlock → K (a.put o.dst v') w') :
    if Region.wanted o (yielded ops a.tmps) = true then Oper.wp P o a w K Q else E := by
  have hw : Region.wanted o (yielded ops a.tmps) = true := by simp [Region.wanted, hg]
  rw [if_pos hw]
  exact wp_append_own w s x t hop base e i z size bytes ht hi hz hsize hby hzs hsz v n xs hs hown ad m c news hx hl hnews h1 h63 hbytes hbase fun v' w' h2 h3 _ => h v' w' h2 h3
theorem cell_three (w : World) (x y z : Value) (e : TypeId) : ∀ j u, ([x, y, z] : List Value)[j]? = some u → (w.alloc (.cells #[x, y, z] e)).cell? ((⟨w.heap.size, 0, none⟩ : Addr).add j) = some u := by
  intro j u h
  match j, h with
  | 0, h => simp at h; subst h; simp [Addr.add]
  | 1, h => simp at h; subst h; simp [Addr.add]
  | 2, h => simp at h; subst h; simp [Addr.add]
theorem OW.lt {B : Nat} {w : World} {v : Value} {l : List UInt8} (h : OW B w v l) : ∀ k, v.ownBlock = some k → B ≤ k := fun k hk => (World.ownsRow.lt h k hk).1
set_option maxHeartbeats 1000000 in
theorem rescape (s : ByteArray) (w : World) (hs : 3 * s.size ≤ 140737488351232) :
    Calls Tryz.prog 31 #[.string s] w fun e w' => e = .returned (.string ⟨(esc s.data.toList).toArray⟩) ∧ Below w.heap.size w w' := by
  obtain ⟨i0, hi, hz0, hz1, hz2⟩ := info_parts info5
  go_enter Tryz.func31, Tryz.ntmps31
  go_wp2
  go_loopw [3, 4] (fun v t wr => ∃ (k n : Nat) (a : Option Addr) (c : Nat), k ≤ s.size ∧ t = .int .i64 k ∧ v = .slice a n c ∧ Hid (n = (esc (s.data.toList.take k)).length) ∧ Hid (OW w.heap.size wr v (esc (s.data.toList.take k))) ∧ Hid (Below w.heap.size w wr)) (fun _ t _ => s.size - (intOf t).toNat)
  case atStart => exact ⟨0, 0, none, 0, Nat.zero_le _, rfl, rfl, (rfl : 0 = (esc (s.data.toList.take 0)).length), (show OW _ _ _ _ from World.ownsRow_nil _ _ _ _), (Below.refl _ _ : Below w.heap.size w _)⟩
  case round =>
    obtain ⟨k, n, a, c, hk, rfl, rfl, hn, how, hbel⟩ := hrel
    by_cases hlt : k < s.size
    · have hx2 := index_s s k hlt k rfl
      have hlt' : (k : Int) < (s.size : Int) := by omega
      have HE : Hid (esc (s.data.toList.take (k + 1)) = esc (s.data.toList.take k) ++ sg s[k]) := esc_snoc s k hlt
      have HL : Hid ((esc (s.data.toList.take k)).length ≤ 3 * k) := esc_take_len s k
      generalize s[k] = x at *
      have hd1 := dg_index .u8 (.inr rfl) (x.toNat / 16) (by have := x.toNat_lt; omega)
      have hd2 := dg_index .u8 (.inr rfl) (x.toNat % 16) (by omega)
      rw [show ((x.toNat / 16 : Nat) : Int) = (x.toNat : Int) / 16 by simp] at hd1
      rw [show ((x.toNat % 16 : Nat) : Int) = (x.toNat : Int) % 16 by simp] at hd2
      have hw1 : IntKind.u8.wrap ((x.toNat : Int) / 16) = (x.toNat : Int) / 16 := by rw [IntKind.wrap_u8]; have := x.toNat_lt; omega
      have hw2 : (x.toNat : Int).tmod 16 = (x.toNat : Int) % 16 := Int.tmod_eq_emod_of_nonneg (by omega)
      generalize esc (s.data.toList.take k) = l at *
      go_wp2_with fail
      refine (rbare x _).mono ?_
      rintro e w1 ⟨rfl, rfl⟩
      cases hb : isB x
      · have HE2 : Hid (esc (s.data.toList.take (k + 1)) = l ++ [37, dg (x.toNat / 16), dg (x.toNat % 16)]) := by rw [HE.out, sg, hb]; rfl
        clear HE
        generalize dg (x.toNat / 16) = d1 at *
        generalize dg (x.toNat % 16) = d2 at *
        have hown : w1.ownsRow w.heap.size 5 1 (.slice a n c) n (Lib.byteCells l) := by rw [hn.out]; have := how.out; rw [hn.out] at this; exact this
        go_wp2
        go_region_law (refine step_append_own rfl (.tmp 23) (.tmp 34) 60 rfl w.heap.size 5 i0 (.int .u8 0) 1 1 Tryz.underlying60 hi hz0 hz1 hz2 rfl (by decide) (.slice a n c) n _ (by simp [Act.eval]) (by exact (hown.drew.alloc _)) ⟨w1.heap.size, 0, none⟩ 3 3 [.int .u8 37, .int .u8 (d1.toNat : Int), .int .u8 (d2.toNat : Int)] (by simp [Act.eval]) rfl (by exact cell_three w1 _ _ _ _) (fun u hu => by simp at hu; rcases hu with rfl | rfl | rfl <;> rfl) (by unfold maxLen; have := HL.out; have := hn.out; omega) (by have := HL.out; have := hn.out; omega) (by have := hbel.out.size; simp; omega) ?_; intro v' w2 hown' hgrow)
        all_goals
          have HO : Hid (OW w.heap.size w2 v' (esc (s.data.toList.take (k + 1)))) := by
            have e : Lib.byteCells l ++ [.int .u8 37, .int .u8 (d1.toNat : Int), .int .u8 (d2.toNat : Int)] = Lib.byteCells (l ++ [37, d1, d2]) := by simp [Lib.byteCells]
            rw [e] at hown'
            have h3 : OW w.heap.size w2 v' (esc (s.data.toList.take (k + 1))) := by
              rw [HE2.out]
              have h4 : n + 3 = (l ++ [37, d1, d2]).length := by simp [hn.out]
              rw [h4] at hown'; exact hown'
            exact h3
          have HB : Hid (Below w.heap.size w w2) := (hbel.out.drew.alloc hbel.out.size _).grown hgrow (by have := hbel.out.size; simp; omega) (fun k hk => (World.ownsRow.lt hown k hk).1)
          obtain ⟨a', c', rfl⟩ := HO.out.form
          clear hown hgrow hbel hown' how hn HE2 HL
          go_wp2
          go_roundw
          case rel => exact ⟨k + 1, _, a', c', by omega, by go_num, rfl, (rfl : (esc (s.data.toList.take (k + 1))).length = _), HO, HB⟩
          case measure => simp [intOf]; omega
      · have HE2 : Hid (esc (s.data.toList.take (k + 1)) = l ++ [x]) := by rw [HE.out, sg, hb]; rfl
        clear HE hd1 hd2
        go_wp2_with (at_builtin; refine append_byte rfl (.tmp 17) (.tmp 21) rfl rfl (how.out.alloc _) _ x rfl (by simp) (by have := hbel.out.size; simp; omega) (by have := HL.out; omega) ?_; intro v' w2 hown' hb1)
        have HO : Hid (OW w.heap.size w2 v' (esc (s.data.toList.take (k + 1)))) := by rw [HE2.out]; exact hown'
        have HB : Hid (Below w.heap.size w w2) := (hbel.out.alloc hbel.out.size _).trans hb1
        obtain ⟨a', c', rfl⟩ := HO.out.form
        clear hb1 hbel hown' how hn HE2 HL
        go_wp2
        go_roundw
        case rel => exact ⟨k + 1, _, a', c', by omega, by go_num, rfl, (rfl : (esc (s.data.toList.take (k + 1))).length = _), HO, HB⟩
        case measure => simp [intOf]; omega
    · have hkl : k = s.size := by omega
      subst hkl
      have HI : OW w.heap.size wr (.slice a n c) (esc s.data.toList) := by
        have := how.out
        rwa [List.take_of_length_le (by simp)] at this
      have hcv := conv_rb HI.rb
      clear how HI
      go_wp2
      go_ret
      exact ⟨rfl, hbel.out⟩
end Go.Proofs.YtjfgpplomldeiaaGreatDoor
