import Derived.Test.YteafkmdgnfbcfaaDoorWalkF
import Derived.Test.YteafkmdgnfbcfaaDoorInts
import Derived.Test.YteafkmdgnfbcfaaDoorOpenR
namespace Go.Proofs.YteafkmdgnfbcfaaDoor
open Go.RowKit Go.Shelf
/-- the set places, as numbers -/
def onZ (l : List UInt8) : List Int := (on1 l (8 * l.length)).map (fun x => (x.1 : Int))
theorem rowMono {B B' e size : Nat} {w : World} {v : Value} {k : Nat} {xs : List Value} (h : w.ownsRow B e size v k xs) (hb : B' ≤ B) : w.ownsRow B' e size v k xs := by
  refine ⟨h.1, ?_⟩
  rcases h.2 with h1 | ⟨g, cap, cur, h1, h2, h3⟩
  · exact .inl h1
  · exact .inr ⟨g, cap, cur, h1, Nat.le_trans hb h2, h3⟩
theorem on1_ext (l : List UInt8) (n d : Nat) (h : ∀ i, n ≤ i → bit l i = false) : on1 l (n + d) = on1 l n := by
  induction d with
  | zero => rfl
  | succ d ih => rw [← Nat.add_assoc, on1_no (h _ (by omega)), ih]
theorem OZ.form {B : Nat} {w : World} {v : Value} {zs : List Int} (h : OZ B w v zs) : ∃ a c, v = .slice a zs.length c := by
  obtain ⟨a, c, h, _⟩ := h.rz.form
  exact ⟨a, c, h⟩
theorem OZ.grow {B : Nat} {w w' : World} {v : Value} {zs : List Int} (h : OZ B w v zs) (hb : Below w.heap.size w w') : OZ B w' v zs := by
  refine ⟨h.1, ?_⟩
  rcases h.2 with h1 | ⟨g, cap, cur, h1, h2, h3, h4⟩
  · exact .inl h1
  · exact .inr ⟨g, cap, cur, h1, h2, (hb.block g (Array.getElem?_eq_some_iff.1 h3).1).trans h3, h4⟩
theorem OZ.alloc {B : Nat} {w : World} {v : Value} {zs : List Int} (h : OZ B w v zs) (o : Obj) : OZ B (w.alloc o) v zs := h.grow ((Below.refl _ _).alloc (Nat.le_refl _) _)
theorem append_int {ops : Array Oper} {rest : List Oper} {o : Oper} {a : Act} {Q : Exit → Act → World → Prop} {w : World} {B : Nat} {sv : Value} {zs : List Int} (hgd : o.guard = none) (s x : Operand)
    (ho : o.op = .call { callee := .builtin .append, args := #[s, x], argTypes := #[23, 23] }) (hs : a.eval s = sv) (hown : OZ B w sv zs) (b : Nat) (c : Int) (hx : a.eval x = .slice (some ⟨b, 0, none⟩) 1 1)
    (hc : w.cell? ⟨b, 0, none⟩ = some (.int .i64 c)) (hB : B ≤ w.heap.size) (hlim : zs.length < 17592186043904)
    (h : ∀ v' w', OZ B w' v' (zs ++ [c]) → Below B w w' → wpList Tryd.prog ops Q rest (a.put o.dst v') w') : wpList Tryd.prog ops Q (o :: rest) a w := by
  obtain ⟨i0, hi, hz0, hz1, hz2⟩ := info_parts info3
  refine wpList_append_own w hgd s x 23 ho B 3 i0 _ 1 8 Tryd.underlying23 hi hz0 hz1 hz2 rfl (by omega) sv zs.length (zs.map (Value.int .i64)) hs hown ⟨b, 0, none⟩ 1 1 [.int .i64 c] hx rfl (fun j u hu => ?_) (fun u hu => ?_) (by unfold maxLen; omega) (by omega) hB (fun v' w' h1 h2 _ => ?_)
  · match j, hu with
    | 0, hu => simp at hu; subst hu; simpa [Addr.add] using hc
  · simp at hu; subst hu; rfl
  · refine h v' w' ?_ ((Below.refl B w).grown h2 hB (fun k hk => (World.ownsRow.lt hown k hk).1))
    have e : zs.map (Value.int .i64) ++ [Value.int .i64 c] = (zs ++ [c]).map (Value.int .i64) := by simp
    rw [e] at h1
    simpa [OZ] using h1
/-- the set places below k, as numbers -/
def onK (l : List UInt8) (k : Nat) : List Int := (on1 l k).map (fun x => (x.1 : Int))
theorem onK_yes {l : List UInt8} {k : Nat} (h : k < 65536) (hb : bit l k = true) : onK l (k + 1) = onK l k ++ [(k : Int)] := by unfold onK; rw [on1_yes h hb]; simp
theorem onK_no {l : List UInt8} {k : Nat} (hb : bit l k = false) : onK l (k + 1) = onK l k := by unfold onK; rw [on1_no hb]
theorem onK_len (l : List UInt8) (k : Nat) : (onK l k).length ≤ k := by unfold onK; rw [List.length_map]; exact on1_len l k


/-- what Ones answers -/
def ON (n : Int) (l : List UInt8) (zs : List Int) (er : Int) : Prop := (ck n l ≠ 0 ∧ zs = [] ∧ er = ck n l) ∨ (ck n l = 0 ∧ zs = onZ l ∧ er = 0)
theorem ON.unique {n : Int} {l : List UInt8} {zs zs' : List Int} {er er' : Int} (h : ON n l zs er) (h' : ON n l zs' er') : zs = zs' ∧ er = er' := by
  rcases h with ⟨h1, rfl, rfl⟩ | ⟨h1, rfl, rfl⟩
  · rcases h' with ⟨g1, rfl, rfl⟩ | ⟨g1, rfl, rfl⟩
    · exact ⟨rfl, rfl⟩
    · exact absurd g1 h1
  · rcases h' with ⟨g1, rfl, rfl⟩ | ⟨g1, rfl, rfl⟩
    · exact absurd h1 g1
    · exact ⟨rfl, rfl⟩
set_option maxHeartbeats 2000000 in
theorem ones24 (n : Int) (h0 : -9223372036854775808 ≤ n) (h1 : n ≤ 9223372036854775807) (v : Value) (l : List UInt8) (w : World) (hr : RB w v l) (hl : l.length ≤ 140737488351232) :
    Calls Tryd.prog 4 #[.int .i64 n, v] w fun e w' => ∃ v' zs er, e = .returned (.tuple #[v', .int .i64 er]) ∧ OZ w.heap.size w' v' zs ∧ ON n l zs er ∧ Below w.heap.size w w' := by
  have HC : Hid (Calls Tryd.prog 8 #[.int .i64 n, v] w fun e w' => e = .returned (.int .i64 (ck n l)) ∧ ∃ nq, w' = w.drewN nq) := check11 n h0 h1 v l w hr hl
  have HR : Hid (RB w v l) := hr
  obtain ⟨a, c, rfl, _⟩ := hr
  by_cases hck : ck n l = 0
  · obtain ⟨k0, k1, k2, k3⟩ := ck_ok hck
    obtain ⟨m, rfl⟩ := Int.eq_ofNat_of_zero_le k0
    have HCK : Hid (ck m l = 0 ∧ l.length = (m + 7) / 8 ∧ ∀ i, m ≤ i → bit l i = false) := ⟨hck, by simpa using k2, by simpa using k3⟩
    have hm : m ≤ 65536 := by omega
    rw [hck] at HC
    clear k3 k2 hck k0 k1 h0 h1
    go_enter Tryd.func4, Tryd.ntmps4
    go_wp2_with (go_at_call 8; refine HC.out.mono ?_; rintro e w1 ⟨rfl, nq0, rfl⟩)
    refine (open32 _ l _ (HR.out.keep (belowDrew _ _)) (by have := HCK.out.2.1; omega)).mono ?_
    rintro e w2 ⟨v2, rfl, ho, hb2⟩
    obtain ⟨a2, c2, rfl⟩ := ho.form
    have hb : Below w.heap.size w w2 := (belowDrew w nq0).trans hb2
    rw [bl_len] at *
    have HO : Hid (OB w.heap.size w2 (.slice a2 (8 * l.length) c2) (bl l (8 * l.length)) ∧ Below w.heap.size w w2) := ⟨ho, hb⟩
    clear ho hb hb2
    go_wp2
    go_loopw [8, 9] (fun x i wr => ∃ (k : Nat) (a3 : Option Addr) (c3 : Nat), k ≤ m ∧ i = .int .i64 k ∧ x = .slice a3 (onK l k).length c3 ∧ OZ w2.heap.size wr x (onK l k) ∧ Below w2.heap.size w2 wr) (fun _ i _ => m - (intOf i).toNat)
    case atStart => exact ⟨0, none, 0, Nat.zero_le _, rfl, rfl, World.ownsRow_nil _ _ _ _, Below.refl _ _⟩
    case round =>
      obtain ⟨k, a3, c3, hk, rfl, rfl, ho3, hb3⟩ := hrel
      by_cases hlt : k < m
      · have hk8 : k < 8 * l.length := by have := HCK.out.2.1; omega
        obtain ⟨g, rfl, _, hgl, hc, _⟩ := HO.out.1.at k hk8
        rw [lb_bl l _ k hk8] at hc
        have hc3 : wr.cell? ⟨g, k, none⟩ = some (.bool (bit l k)) := (hb3.cell (p := ⟨g, k, none⟩) hgl).trans hc
        have hB := hb3.size
        clear hc
        by_cases hbit : bit l k = true
        · have HS : Hid (onK l (k + 1) = onK l k ++ [(k : Int)] ∧ (onK l k).length ≤ k) := ⟨onK_yes (by omega) hbit, onK_len l k⟩
          have HP : Hid (OZ w2.heap.size wr (.slice a3 (onK l k).length c3) (onK l k) ∧ Below w2.heap.size w2 wr) := ⟨ho3, hb3⟩
          rw [hbit] at hc3
          clear hbit ho3 hb3
          go_wp2_with (at_builtin; refine append_int rfl _ _ rfl rfl (HP.out.1.alloc _) wr.heap.size (k : Int) rfl (by go_simp) (by simp; omega) (by have := HS.out.2; omega) ?_; (intro v' w3 ho' hb'; obtain ⟨a4, c4, rfl⟩ := ho'.form))
          have hlen : (onK l k).length + 1 = (onK l (k + 1)).length := by rw [HS.out.1]; simp
          have ho4 : OZ w2.heap.size w3 (.slice a4 ((onK l k).length + 1) c4) (onK l (k + 1)) := by rw [HS.out.1]; simpa using ho'
          exact ⟨⟨k + 1, a4, c4, by omega, by go_num, by rw [hlen], ho4, (HP.out.2.alloc hB _).trans hb'⟩, by simp [intOf]; omega⟩
        · have hbf : bit l k = false := by simpa using hbit
          rw [hbf] at hc3
          have he := onK_no hbf
          rw [← he] at ho3
          clear hbit hbf
          go_wp2
          exact ⟨⟨k + 1, a3, c3, by omega, by go_num, by rw [he], by rw [← he]; exact ho3, hb3⟩, by simp [intOf]; omega⟩
      · obtain rfl : k = m := by omega
        have hon : onK l k = onZ l := by
          unfold onK onZ
          have h2 := HCK.out
          obtain ⟨d, hd⟩ := Nat.exists_eq_add_of_le (show k ≤ 8 * l.length by omega)
          rw [hd, on1_ext l k d h2.2.2]
        have HP : Hid (OZ w2.heap.size wr (.slice a3 (onK l k).length c3) (onK l k) ∧ Below w2.heap.size w2 wr) := ⟨ho3, hb3⟩
        clear ho3 hb3
        go_wp2
        go_ret2
        exact ⟨_, onK l k, 0, rfl, rowMono HP.out.1 HO.out.2.size, .inr ⟨HCK.out.1, hon, rfl⟩, HO.out.2.trans (HP.out.2.mono HO.out.2.size)⟩
  · have HCK : Hid (ck n l ≠ 0) := hck
    have hz : (ck n l != 0) = true := by simpa using hck
    clear hck
    generalize hzz : ck n l = z at *
    have HZ : Hid (ck n l = z) := hzz
    clear hzz
    go_enter Tryd.func4, Tryd.ntmps4
    go_wp2_with (go_at_call 8; refine HC.out.mono ?_; rintro e w1 ⟨rfl, nq, rfl⟩)
    go_ret2
    exact ⟨_, [], z, rfl, World.ownsRow_nil _ _ _ _, .inl ⟨by rw [HZ.out]; exact HCK.out, rfl, HZ.out.symm⟩, belowDrew _ _⟩
end Go.Proofs.YteafkmdgnfbcfaaDoor
