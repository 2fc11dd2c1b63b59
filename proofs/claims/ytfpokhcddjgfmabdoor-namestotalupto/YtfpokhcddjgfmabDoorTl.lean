import Derived.Test.YtfpokhcddjgfmabDoorAw
import Derived.Laws.AppendOwnNone
namespace Go.Proofs.YtfpokhcddjgfmabDoor
open Go.RowKit
theorem less_trans : ∀ x y z : List UInt8, Op.bytesLess x y = true → Op.bytesLess y z = true → Op.bytesLess x z = true
  | _, [], _ => by intro h; simp [Op.bytesLess] at h
  | _, _ :: _, [] => by intro _ h; simp [Op.bytesLess] at h
  | [], _ :: _, _ :: _ => by intro _ _; rfl
  | a :: x, b :: y, c :: z => by
    intro h1 h2
    have ih := less_trans x y z
    simp only [Op.bytesLess, Bool.or_eq_true, decide_eq_true_eq, Bool.and_eq_true, beq_iff_eq] at h1 h2 ⊢
    rcases h1 with h1 | ⟨rfl, h1⟩
    · rcases h2 with h2 | ⟨rfl, h2⟩
      · exact .inl (UInt8.lt_trans h1 h2)
      · exact .inl h1
    · rcases h2 with h2 | ⟨rfl, h2⟩
      · exact .inl h2
      · exact .inr ⟨rfl, ih h1 h2⟩

theorem sl_trans {a b c : ByteArray} (h1 : sl a b = true) (h2 : sl b c = true) : sl a c = true := less_trans _ _ _ h1 h2
theorem cl_self : ∀ a : List ByteArray, cl a a = 0
  | [] => rfl
  | x :: a => by rw [cl, if_pos rfl]; exact cl_self a
theorem cl_eq0 : ∀ a b : List ByteArray, cl a b = 0 → a = b
  | [], [], _ => rfl
  | [], _ :: _, h => by rw [cl] at h; omega
  | _ :: _, [], h => by rw [cl] at h; omega
  | x :: a, y :: b, h => by
    rw [cl] at h
    by_cases e : x = y
    · rw [if_pos e] at h; rw [e, cl_eq0 a b h]
    · rw [if_neg e] at h; split at h <;> omega
theorem cl_neg : ∀ a b : List ByteArray, cl b a = - cl a b
  | [], [] => by simp [cl]
  | [], _ :: _ => by simp [cl]
  | _ :: _, [] => by simp [cl]
  | x :: a, y :: b => by
    rw [cl, cl]
    by_cases e : x = y
    · rw [if_pos e, if_pos e.symm]; exact cl_neg a b
    · rw [if_neg e, if_neg (fun h => e h.symm), sl_other e]
      cases sl x y <;> simp
theorem cl_tr : ∀ a b c : List ByteArray, cl a b < 0 → cl b c < 0 → cl a c < 0
  | [], [], _, h, _ => by rw [cl] at h; omega
  | [], _ :: _, [], _, h => by rw [cl] at h; omega
  | [], _ :: _, _ :: _, _, _ => by rw [cl]; omega
  | _ :: _, [], _, h, _ => by rw [cl] at h; omega
  | _ :: _, _ :: _, [], _, h => by rw [cl] at h; omega
  | x :: a, y :: b, z :: c, h1, h2 => by
    rw [cl] at h1 h2 ⊢
    by_cases e1 : x = y
    · subst e1
      rw [if_pos rfl] at h1
      by_cases e2 : x = z
      · rw [if_pos e2] at h2 ⊢; exact cl_tr a b c h1 h2
      · rw [if_neg e2] at h2 ⊢; exact h2
    · rw [if_neg e1] at h1
      have s1 : sl x y = true := by cases h : sl x y <;> simp_all
      by_cases e2 : y = z
      · subst e2; rw [if_neg e1, if_pos s1]; omega
      · rw [if_neg e2] at h2
        have s2 : sl y z = true := by cases h : sl y z <;> simp_all
        have s3 := sl_trans s1 s2
        by_cases e3 : x = z
        · subst e3; rw [sl_irr] at s3; cases s3
        · rw [if_neg e3, if_pos s3]; omega
theorem cl_app : ∀ a c : List ByteArray, cl a (a ++ c) = cl [] c
  | [], c => rfl
  | x :: a, c => by rw [List.cons_append, cl, if_pos rfl]; exact cl_app a c
theorem lx_app (a c : List ByteArray) : lx a (a ++ c) = decide (0 < c.length) := by
  unfold lx; rw [cl_app]; cases c <;> simp [cl]
/-- does b begin with a? -/
def bg (a b : List ByteArray) : Bool := decide (a.length ≤ b.length) && smB a (b.take a.length)
theorem bg_iff {a b : List ByteArray} : bg a b = true ↔ ∃ c, b = a ++ c := by
  unfold bg smB
  rw [Bool.and_eq_true, decide_eq_true_eq, decide_eq_true_eq]
  constructor
  · rintro ⟨_, h⟩
    exact ⟨b.drop a.length, by have e := List.take_append_drop a.length b; rw [← h] at e; exact e.symm⟩
  · rintro ⟨c, rfl⟩; simp
theorem cl_in : ∀ a b c : List ByteArray, cl a b < 0 → (¬ ∃ r, b = a ++ r) → cl (a ++ c) b < 0
  | [], b, _, _, h => absurd ⟨b, rfl⟩ h
  | _ :: _, [], _, h, _ => by rw [cl] at h; omega
  | x :: a, y :: b, c, h1, h2 => by
    rw [List.cons_append]
    rw [cl] at h1 ⊢
    by_cases e : x = y
    · subst e
      rw [if_pos rfl] at h1 ⊢
      exact cl_in a b c h1 fun ⟨r, hr⟩ => h2 ⟨r, by rw [hr, List.cons_append]⟩
    · rw [if_neg e] at h1 ⊢; exact h1
theorem append_ls {ops : Array Oper} {rest : List Oper} {o : Oper} {a : Act} {Q : Exit → Act → World → Prop} {w : World} {B : Nat} {sv v : Value} {l m : List ByteArray} (hgd : o.guard = none) (s x : Operand)
    (ho : o.op = .call { callee := .builtin .append, args := #[s, x], argTypes := #[22, 22] }) (hs : a.eval s = sv) (hown : OS B w sv l) (hx : a.eval x = v) (hv : SR w m v) (shape : v = .slice none 0 0 ∨ ∃ ad n c, v = .slice (some ad) n c)
    (hB : B ≤ w.heap.size) (hlim : (l.length + m.length) * 16 ≤ 140737488351232)
    (h : ∀ v' w', OS B w' v' (l ++ m) → Below B w w' → wpList Tryd.prog ops Q rest (a.put o.dst v') w') : wpList Tryd.prog ops Q (o :: rest) a w := by
  obtain ⟨i0, hi, hz0, hz1, hz2⟩ := info_parts info9
  rcases shape with rfl | ⟨ad, n, c, rfl⟩
  · have hm : m = [] := by
      obtain ⟨a', c', he, _⟩ := hv
      cases m with
      | nil => rfl
      | cons _ _ => simp at he
    subst hm
    exact wpList_append_own_none hgd s x 22 ho B 9 i0 1 Tryd.underlying22 hi sv l.length (l.map .string) hs hown hx (h sv w (by rw [List.append_nil]; exact hown) (Below.refl _ _))
  · obtain ⟨a', c', he, _, hcell⟩ := hv
    cases he
    refine wpList_append_own w hgd s x 22 ho B 9 i0 _ 1 16 Tryd.underlying22 hi hz0 hz1 hz2 rfl (by omega) sv l.length (l.map .string) hs hown ad m.length c (m.map .string) hx (by simp) (fun j u hu => ?_) (fun u hu => ?_) (by unfold maxLen; omega) (by omega) hB (fun v' w' h1 h2 _ => ?_)
    · have hj : j < m.length := by
        rcases Nat.lt_or_ge j m.length with h | h
        · exact h
        · rw [List.getElem?_eq_none (by simpa using h)] at hu; cases hu
      rcases hcell with h0 | ⟨b, o', hae, _, hc⟩
      · subst h0; simp at hj
      cases hae
      rw [List.getElem?_map, List.getElem?_eq_getElem hj] at hu
      have hadd : (⟨b, o', none⟩ : Addr).add j = ⟨b, o' + j, none⟩ := by unfold Addr.add; split <;> simp_all
      rw [hadd, hc j hj, sa_get hj]; simpa using hu
    · obtain ⟨i, _, rfl⟩ := List.mem_map.1 hu
      rfl
    · refine h v' w' ?_ ((Below.refl B w).grown h2 hB (fun k hk => (World.ownsRow.lt hown k hk).1))
      have e : l.map Value.string ++ m.map Value.string = (l ++ m).map .string := by simp
      rw [e] at h1
      unfold OS; rw [List.length_append]; exact h1
theorem os_nil (B : Nat) (w : World) : OS B w (.slice none 0 0) [] := World.ownsRow_nil _ _ _ _
theorem take_sr {w : World} {l : List ByteArray} {a : Option Addr} {n c k : Nat} (h : SR w l (.slice a n c)) (hk : k ≤ l.length) : SR w (l.take k) (.slice a k c) := by
  obtain ⟨a', c', he, hc, h⟩ := h
  cases he
  have hl : (l.take k).length = k := by rw [List.length_take]; omega
  refine ⟨a, c, by rw [hl], by omega, ?_⟩
  rcases h with h | ⟨g, o, h1, h2, h3⟩
  · subst h; exact .inl (by simp)
  · refine .inr ⟨g, o, h1, h2, fun i hi => ?_⟩
    rw [h3 i (by omega)]
    congr 2
    rw [sa_get (by omega), sa_get (by omega)]; simp
set_option maxHeartbeats 1000000 in
theorem begins17 (v1 v2 : Value) (l m : List ByteArray) (w : World) (hl : l.length * 16 ≤ 140737488351232) (_hm : m.length * 16 ≤ 140737488351232) (h1 : SR w l v1) (h2 : SR w m v2) :
    Calls Tryd.prog 17 #[v1, v2] w fun e w' => e = .returned (.bool (bg l m)) ∧ ∃ n, w' = w.drewN n := by
  have H1 : Hid (SR w l v1) := h1
  have H2 : Hid (SR w m v2) := h2
  obtain ⟨a1, c1, rfl, _, _⟩ := h1
  obtain ⟨a2, c2, rfl, hc2, _⟩ := h2
  by_cases hle : l.length ≤ m.length
  · have HB : Hid (bg l m = smB l (m.take l.length)) := by show bg l m = _; unfold bg; rw [decide_eq_true hle, Bool.true_and]
    have HT : Hid (SR w (m.take l.length) (.slice a2 l.length c2)) := take_sr H2.out hle
    have hlen : (m.take l.length).length * 16 ≤ 140737488351232 := by rw [List.length_take]; omega
    go_enter Tryd.func17, Tryd.ntmps17
    go_wp2_with fail
    refine (same14 _ _ l (m.take l.length) _ hl hlen H1.out HT.out).mono ?_
    rintro e w' ⟨rfl, n, rfl⟩
    generalize smB l (m.take l.length) = z at *
    go_wp2
    go_ret
    exact ⟨ret_b HB.out.symm, _, rfl⟩
  · have HB : Hid (bg l m = false) := by show bg l m = _; unfold bg; rw [decide_eq_false hle, Bool.false_and]
    go_enter Tryd.func17, Tryd.ntmps17
    go_wp2
    go_ret
    exact ⟨ret_b HB.out.symm, 0, rfl⟩
theorem lxC {l m : List ByteArray} {r : Bool} (hl : l.length * 16 ≤ 140737488351232) (hm : m.length * 16 ≤ 140737488351232) (h : lx l m = r) (v1 v2 : Value) (w : World) (h1 : SR w l v1) (h2 : SR w m v2) : Calls Tryd.prog 16 #[v1, v2] w fun e w' => e = .returned (.bool r) ∧ w' = w := h ▸ less12 v1 v2 l m w hl hm h1 h2
end Go.Proofs.YtfpokhcddjgfmabDoor
