import Derived.Test.YtnpcbcfjnhjmmaaGreatDoorV00
import Derived.Test.YtnpcbcfjnhjmmaaGreatDoorV07
import Derived.Shelf.Strings.Prefix
namespace Go.Proofs.YtnpcbcfjnhjmmaaGreatDoor
open Go.Shelf Go.RowKit Go.Deep
theorem tl_eq (s : ByteArray) : s.toList = s.data.toList := ByteArray.toList_eq s
/-- the kind of a key -/
def kdR (key : ByteArray) : Nat :=
  if key.toList == [120, 116] then 0 else if key.toList == [100, 110] then 1 else if key.toList == [115, 111] then 2 else if key.toList == [116, 114] then 3 else if key.toList == [120, 46, 112, 101] then 4 else 5
theorem ret_n {a b : Nat} (h : a = b) : Ending.returned (.int .i64 (a : Int)) = .returned (.int .i64 (b : Int)) := by rw [h]
set_option maxHeartbeats 1000000 in
theorem kindOf (key : ByteArray) (w : World) : Calls Tryz.prog 39 #[.string key] w fun e w' => e = .returned (.int .i64 ((kdR key + 1 : Nat) : Int)) ∧ w' = w := by
  have HK : Hid (kdR key = if key.toList == [120, 116] then 0 else if key.toList == [100, 110] then 1 else if key.toList == [115, 111] then 2 else if key.toList == [116, 114] then 3 else if key.toList == [120, 46, 112, 101] then 4 else 5) := rfl
  generalize kdR key = kk at *
  cases h0 : (key.toList == [120, 116]) with
  | true =>
    have HR : Hid (1 = kk + 1) := by have := HK.out; rw [h0] at this; rw [this]; exact (rfl : 1 = 0 + 1)
    clear HK
    go_enter Tryz.func39, Tryz.ntmps39
    go_wp2
    go_ret
    exact ⟨ret_n HR.out, rfl⟩
  | false =>
    cases h1 : (key.toList == [100, 110]) with
    | true =>
      have HR : Hid (2 = kk + 1) := by have := HK.out; rw [h0, h1] at this; rw [this]; exact (rfl : 2 = 1 + 1)
      clear HK
      go_enter Tryz.func39, Tryz.ntmps39
      go_wp2
      go_ret
      exact ⟨ret_n HR.out, rfl⟩
    | false =>
      cases h2 : (key.toList == [115, 111]) with
      | true =>
        have HR : Hid (3 = kk + 1) := by have := HK.out; rw [h0, h1, h2] at this; rw [this]; exact (rfl : 3 = 2 + 1)
        clear HK
        go_enter Tryz.func39, Tryz.ntmps39
        go_wp2
        go_ret
        exact ⟨ret_n HR.out, rfl⟩
      | false =>
        cases h3 : (key.toList == [116, 114]) with
        | true =>
          have HR : Hid (4 = kk + 1) := by have := HK.out; rw [h0, h1, h2, h3] at this; rw [this]; exact (rfl : 4 = 3 + 1)
          clear HK
          go_enter Tryz.func39, Tryz.ntmps39
          go_wp2
          go_ret
          exact ⟨ret_n HR.out, rfl⟩
        | false =>
          cases h4 : (key.toList == [120, 46, 112, 101]) with
          | true =>
            have HR : Hid (5 = kk + 1) := by have := HK.out; rw [h0, h1, h2, h3, h4] at this; rw [this]; exact (rfl : 5 = 4 + 1)
            clear HK
            go_enter Tryz.func39, Tryz.ntmps39
            go_wp2
            go_ret
            exact ⟨ret_n HR.out, rfl⟩
          | false =>
            have HR : Hid (6 = kk + 1) := by have := HK.out; rw [h0, h1, h2, h3, h4] at this; rw [this]; exact (rfl : 6 = 5 + 1)
            clear HK
            go_enter Tryz.func39, Tryz.ntmps39
            go_wp2
            go_ret
            exact ⟨ret_n HR.out, rfl⟩
/-- is the string one of the list -/
def winB (ts : List ByteArray) (s : ByteArray) : Bool := ts.any fun t => t.toList == s.toList
set_option maxHeartbeats 1000000 in
theorem slIndex (v : Value) (ts : List ByteArray) (s : ByteArray) (w : World) (h : RS (fun _ => True) w v ts) (hn : ts.length ≤ 140737488351232) :
    Calls Tryz.prog 68 #[v, .string s] w fun e w' => ∃ r : Int, e = .returned (.int .i64 r) ∧ decide (0 ≤ r) = winB ts s ∧ w' = w := by
  obtain ⟨a, c, rfl, hx⟩ := h
  have HX := Lib.hid hx
  generalize hnn : ts.length = n at *
  have HNN := Lib.hid hnn
  clear hx hnn
  go_enter Tryz.func68, Tryz.ntmps68
  go_wp2
  go_loopw [8] (fun t wr => ∃ i : Nat, i ≤ n ∧ t = .int .i64 i ∧ wr = w ∧ Hid (∀ (j : Nat) (x : ByteArray), j < i → ts[j]? = some x → (x.toList == s.toList) = false)) (fun t _ => n - (intOf t).toNat)
  case atStart => exact ⟨0, Nat.zero_le _, rfl, rfl, (fun j x h => absurd h (Nat.not_lt_zero _) : ∀ (j : Nat) (x : ByteArray), j < 0 → ts[j]? = some x → (x.toList == s.toList) = false)⟩
  case round =>
    obtain ⟨i, hi, rfl, rfl, HI⟩ := hrel
    by_cases hlt : i < n
    · obtain ⟨x, hx⟩ : ∃ x, ts[i]? = some x := ⟨_, List.getElem?_eq_getElem (by rw [HNN.out]; exact hlt)⟩
      obtain ⟨g, o, rfl, _, hg, hc⟩ := HX.out.resolve_left (fun e => by rw [e] at hlt; omega)
      have g0 := hc i x hx
      have HXI := Lib.hid hx
      have hcomm : (s.toList == x.toList) = (x.toList == s.toList) := by rw [Bool.eq_iff_iff, beq_iff_eq, beq_iff_eq]; exact eq_comm
      clear hc hx
      cases he : (x.toList == s.toList) with
      | true =>
        rw [he] at hcomm
        have HE : Hid (winB ts s = true) := List.any_eq_true.2 ⟨x, List.mem_of_getElem? HXI.out, he⟩
        clear HI
        go_wp2
        go_ret
        exact ⟨i, rfl, by rw [HE.out]; exact decide_eq_true (by omega), rfl⟩
      | false =>
        rw [he] at hcomm
        have HJ : Hid (∀ (j : Nat) (y : ByteArray), j < i + 1 → ts[j]? = some y → (y.toList == s.toList) = false) := fun j y hj hy => by
          rcases Nat.lt_succ_iff_lt_or_eq.1 hj with h | rfl
          · exact HI.out j y h hy
          · have h9 := HXI.out
            rw [hy] at h9
            cases h9
            exact he
        clear HI
        go_wp2
        exact ⟨⟨i + 1, by omega, by go_num, by trivial, HJ⟩, by simp [intOf]; omega⟩
    · have HE : Hid (winB ts s = false) := by
        have h9 : winB ts s = false := by
          unfold winB
          rw [List.any_eq_false]
          intro x hx
          obtain ⟨j, hj⟩ := List.mem_iff_getElem?.1 hx
          have := HI.out j x (by have := (List.getElem?_eq_some_iff.1 hj).1; have := HNN.out; omega) hj
          simp [this]
        exact h9
      clear HI
      go_wp2
      go_ret
      exact ⟨-1, rfl, by rw [HE.out]; rfl, rfl⟩
set_option maxHeartbeats 1000000 in
theorem contains (v : Value) (ts : List ByteArray) (s : ByteArray) (w : World) (h : RS (fun _ => True) w v ts) (hn : ts.length ≤ 140737488351232) :
    Calls Tryz.prog 43 #[v, .string s] w fun e w' => e = .returned (.bool (winB ts s)) ∧ w' = w := by
  have H := Lib.hid (slIndex v ts s w h hn)
  obtain ⟨a, c, rfl, -⟩ := h
  go_enter Tryz.func43, Tryz.ntmps43
  go_wp2_with fail
  refine H.out.mono ?_
  rintro en w1 ⟨r, rfl, hr, rfl⟩
  have HR := Lib.hid hr
  clear hr H
  go_wp2
  go_ret
  exact ⟨ret_b HR.out, rfl⟩
/-- a run of files -/
def RnOk (x : Int × Int) : Prop := (0 ≤ x.1 ∧ x.1 ≤ 4095) ∧ 1 ≤ x.2 ∧ x.2 ≤ 4096
/-- the runs rise, with a place between each two -/
def apB (rs : List (Int × Int)) : Bool := (List.range rs.length).all fun j => match rs[j]?, rs[j + 1]? with | some x, some y => decide (x.1 + x.2 < y.1) | _, _ => true
theorem apB_iff {rs : List (Int × Int)} : apB rs = true ↔ ∀ (j : Nat) (x y : Int × Int), rs[j]? = some x → rs[j + 1]? = some y → x.1 + x.2 < y.1 := by
  unfold apB
  rw [List.all_eq_true]
  constructor
  · intro h j x y hx hy
    have := h j (List.mem_range.2 (List.getElem?_eq_some_iff.1 hx).1)
    rw [hx, hy] at this
    exact of_decide_eq_true this
  · intro h j _
    cases hx : rs[j]? with
    | none => rfl
    | some x =>
      cases hy : rs[j + 1]? with
      | none => rfl
      | some y => exact decide_eq_true (h j x y hx hy)
set_option maxHeartbeats 2000000 in
theorem areApart (v : Value) (rs : List (Int × Int)) (w : World) (h : RR (fun _ => True) w v rs) (hn : rs.length ≤ 2147483647) (hb : ∀ x ∈ rs, RnOk x) :
    Calls Tryz.prog 47 #[v] w fun e w' => e = .returned (.bool (apB rs)) ∧ ∃ n, w' = w.drewN n := by
  obtain ⟨a, c, rfl, hx⟩ := h
  have HX := Lib.hid hx
  have HB : Hid (∀ x ∈ rs, RnOk x) := hb
  generalize hnn : rs.length = n at *
  have HNN := Lib.hid hnn
  clear hx hnn hb
  go_enter Tryz.func47, Tryz.ntmps47
  go_wp2
  go_loopw [3] (fun t wr => ∃ i nq : Nat, 1 ≤ i ∧ (i ≤ n ∨ i = 1) ∧ t = .int .i64 i ∧ wr = w.drewN nq ∧ Hid (∀ (j : Nat) (x y : Int × Int), j + 1 < i → rs[j]? = some x → rs[j + 1]? = some y → x.1 + x.2 < y.1)) (fun t _ => n - (intOf t).toNat)
  case atStart => exact ⟨1, 0, Nat.le_refl _, .inr rfl, rfl, rfl, (fun j x y h => by omega : ∀ (j : Nat) (x y : Int × Int), j + 1 < 1 → rs[j]? = some x → rs[j + 1]? = some y → x.1 + x.2 < y.1)⟩
  case round =>
    obtain ⟨i, n0, hi1, hi, rfl, rfl, HI⟩ := hrel
    by_cases hlt : i < n
    · obtain ⟨y, hy⟩ : ∃ y, rs[i]? = some y := ⟨_, List.getElem?_eq_getElem (by rw [HNN.out]; exact hlt)⟩
      obtain ⟨x, hx⟩ : ∃ x, rs[i - 1]? = some x := ⟨_, List.getElem?_eq_getElem (by rw [HNN.out]; omega)⟩
      obtain ⟨g, o, rfl, _, hg, hc⟩ := HX.out.resolve_left (fun e => by rw [e] at hlt; omega)
      obtain ⟨g0, g1⟩ := hc i y hy
      obtain ⟨g2, g3⟩ := hc (i - 1) x hx
      obtain ⟨⟨r1, r2⟩, r3, r4⟩ := HB.out x (List.mem_of_getElem? hx)
      obtain ⟨⟨s1, s2⟩, s3, s4⟩ := HB.out y (List.mem_of_getElem? hy)
      have HXY : Hid (rs[i - 1]? = some x ∧ rs[i]? = some y) := ⟨hx, hy⟩
      have ei : ((i : Int) - 1) = ((i - 1 : Nat) : Int) := by omega
      obtain ⟨k, rfl⟩ : ∃ k, i = k + 1 := ⟨i - 1, by omega⟩
      simp only [Nat.add_sub_cancel] at g2 g3 HXY ei
      clear hx hy hc ei
      obtain ⟨xa, xb⟩ := x
      obtain ⟨ya, yb⟩ := y
      simp only at g0 g1 g2 g3 r1 r2 r3 r4 s1 s2 s3 s4
      have hk1 : (((k + 1 : Nat) : Int) - 1) = (k : Int) := by omega
      by_cases hcmp : xa + xb < ya
      · have HJ : Hid (∀ (j : Nat) (x y : Int × Int), j + 1 < k + 1 + 1 → rs[j]? = some x → rs[j + 1]? = some y → x.1 + x.2 < y.1) := fun j x y hj h1 h2 => by
          rcases Nat.lt_succ_iff_lt_or_eq.1 hj with h | h
          · exact HI.out j x y h h1 h2
          · obtain rfl : j = k := by omega
            have h3 := HXY.out.1
            have h4 := HXY.out.2
            rw [h1] at h3
            rw [h2] at h4
            cases h3
            cases h4
            exact hcmp
        clear HI HXY
        go_wp2
        go_quiet (fail)
        go_wp2
        exact ⟨⟨k + 1 + 1, _, by omega, .inl (by omega), by go_num, rfl, HJ⟩, by simp [intOf]; omega⟩
      · have HE : Hid (false = apB rs) := by
          have h9 : apB rs = false := by
            rw [Bool.eq_false_iff]
            intro ht
            exact hcmp (apB_iff.1 ht k _ _ HXY.out.1 HXY.out.2)
          exact h9.symm
        clear HI HXY
        go_wp2
        go_quiet (fail)
        go_wp2
        go_ret
        exact ⟨ret_b HE.out, n0 + nq, by simp⟩
    · have HE : Hid (true = apB rs) := by
        have h9 : apB rs = true := apB_iff.2 fun j x y h1 h2 => HI.out j x y (by have := (List.getElem?_eq_some_iff.1 h2).1; have := HNN.out; omega) h1 h2
        exact h9.symm
      clear HI
      go_wp2
      go_ret
      exact ⟨ret_b HE.out, n0, rfl⟩
end Go.Proofs.YtnpcbcfjnhjmmaaGreatDoor
namespace Go.Proofs.YtnpcbcfjnhjmmaaGreatDoor
open Go.Shelf Go.RowKit Go.Deep
/-- a digit -/
def dgt (x : UInt8) : Bool := decide (48 ≤ x.toNat) && decide (x.toNat ≤ 57)
def numGo : Nat → List UInt8 → Nat → Nat → Nat × Nat
  | 0, _, n, c => (n, c)
  | _ + 1, [], n, c => (n, c)
  | f + 1, x :: r, n, c => if dgt x then numGo f r (10 * n + (x.toNat - 48)) (c + 1) else (n, c)
/-- the number that a text begins with, and how many bytes stand for it -/
def numR (l : List UInt8) : Option (Nat × Nat) :=
  if (numGo 5 l 0 0).2 = 0 ∨ 4096 ≤ (numGo 5 l 0 0).1 ∨ (l.getD 0 0 = 48 ∧ 1 < (numGo 5 l 0 0).2) then none else some (numGo 5 l 0 0)
theorem numGo_stop {f : Nat} {l : List UInt8} {n c : Nat} (h : f = 0 ∨ l = [] ∨ dgt (l.getD 0 0) = false) : numGo f l n c = (n, c) := by
  cases f with
  | zero => rfl
  | succ f =>
    cases l with
    | nil => rfl
    | cons x r =>
      have h1 : dgt x = false := by
        rcases h with h | h | h
        · cases h
        · cases h
        · exact h
      rw [numGo, h1]; rfl
theorem numGo_step {f : Nat} {x : UInt8} {r : List UInt8} {n c : Nat} (h : dgt x = true) : numGo (f + 1) (x :: r) n c = numGo f r (10 * n + (x.toNat - 48)) (c + 1) := by rw [numGo, h]; rfl
theorem drop_cons (s : ByteArray) (k : Nat) (h : k < s.size) : s.data.toList.drop k = s[k] :: s.data.toList.drop (k + 1) := by
  have h2 : k < s.data.toList.length := by simpa using h
  rw [List.drop_eq_getElem_cons h2]
  congr 1
theorem ret_ii {a b c d : Int} (h1 : a = b) (h2 : c = d) : Ending.returned (.tuple #[.int .i64 a, .int .i64 c]) = .returned (.tuple #[.int .i64 b, .int .i64 d]) := by rw [h1, h2]
/-- what the reference's number answers at a place -/
def nmN (l : List UInt8) (i : Nat) : Int := match numR (l.drop i) with | some (n, _) => n | none => 0
def nmK (l : List UInt8) (i : Nat) : Int := match numR (l.drop i) with | some (_, c) => ((i + c : Nat) : Int) | none => -1
end Go.Proofs.YtnpcbcfjnhjmmaaGreatDoor
namespace Go.Proofs.YtnpcbcfjnhjmmaaGreatDoor
open Go.Shelf Go.RowKit Go.Deep
/-- runs that the call owns -/
def OR (B : Nat) (w : World) (v : Value) (rs : List (Int × Int)) : Prop := w.ownsRow B 36 2 v rs.length (rsC rs)
theorem OR.form {B : Nat} {w : World} {v : Value} {rs : List (Int × Int)} (h : OR B w v rs) : ∃ a c, v = .slice a rs.length c := ownForm h
theorem OR.rr {B : Nat} {w : World} {v : Value} {rs : List (Int × Int)} (h : OR B w v rs) : RR (fun b => B ≤ b) w v rs := runs_of h
theorem OR.grow {B : Nat} {w w' : World} {v : Value} {rs : List (Int × Int)} (h : OR B w v rs) (hb : Below w.heap.size w w') : OR B w' v rs := by
  refine ⟨h.1, ?_⟩
  rcases h.2 with h1 | ⟨g, cap, cur, h1, h2, h3, h4⟩
  · exact .inl h1
  · exact .inr ⟨g, cap, cur, h1, h2, (hb.block g (Array.getElem?_eq_some_iff.1 h3).1).trans h3, h4⟩
theorem OR.alloc {B : Nat} {w : World} {v : Value} {rs : List (Int × Int)} (h : OR B w v rs) (o : Obj) : OR B (w.alloc o) v rs := h.grow ((Below.refl _ _).alloc (Nat.le_refl _) _)
theorem append_run {ops : Array Oper} {rest : List Oper} {o : Oper} {a : Act} {Q : Exit → Act → World → Prop} {w : World} {B : Nat} {sv : Value} {rs : List (Int × Int)} (hgd : o.guard = none) (s x : Operand)
    (ho : o.op = .call { callee := .builtin .append, args := #[s, x], argTypes := #[25, 25] }) (hs : a.eval s = sv) (hown : OR B w sv rs) (b : Nat) (y : Int × Int) (hx : a.eval x = .slice (some ⟨b, 0, none⟩) 1 1)
    (hc0 : w.cell? ⟨b, 0, none⟩ = some (.int .i64 y.1)) (hc1 : w.cell? ⟨b, 1, none⟩ = some (.int .i64 y.2)) (hB : B ≤ w.heap.size) (hlim : rs.length < 2147483647)
    (h : ∀ v' w', OR B w' v' (rs ++ [y]) → Below B w w' → wpList Tryz.prog ops Q rest (a.put o.dst v') w') : wpList Tryz.prog ops Q (o :: rest) a w := by
  obtain ⟨i0, hi, hz0, hz1, hz2⟩ := info_parts infoRng
  refine wpList_append_own w hgd s x 25 ho B 36 i0 _ 2 16 Tryz.underlying25 hi hz0 hz1 hz2 rfl (by omega) sv rs.length (rsC rs) hs hown ⟨b, 0, none⟩ 1 1 [.int .i64 y.1, .int .i64 y.2] hx rfl (fun j u hu => ?_) (fun u hu => ?_) (by unfold maxLen; omega) (by omega) hB (fun v' w' h1 h2 _ => ?_)
  · match j, hu with
    | 0, hu => simp at hu; subst hu; simpa [Addr.add] using hc0
    | 1, hu => simp at hu; subst hu; simpa [Addr.add] using hc1
  · simp at hu; rcases hu with rfl | rfl <;> rfl
  · refine h v' w' ?_ ((Below.refl B w).grown h2 hB (fun k hk => (World.ownsRow.lt hown k hk).1))
    have e : rsC rs ++ [Value.int .i64 y.1, Value.int .i64 y.2] = rsC (rs ++ [y]) := by simp [rsC]
    rw [e] at h1
    have e2 : rs.length + 1 = (rs ++ [y]).length := by simp
    rw [e2] at h1
    exact h1
theorem numGo_le : ∀ (f : Nat) (l : List UInt8) (n c : Nat), c ≤ (numGo f l n c).2 ∧ (numGo f l n c).2 ≤ c + l.length
  | 0, l, n, c => ⟨Nat.le_refl _, Nat.le_add_right _ _⟩
  | f + 1, [], n, c => ⟨Nat.le_refl _, Nat.le_refl _⟩
  | f + 1, x :: r, n, c => by
    rw [numGo]
    split
    · have := numGo_le f r (10 * n + (x.toNat - 48)) (c + 1)
      simp only [List.length_cons]
      omega
    · simp
theorem numR_ok {l : List UInt8} {n c : Nat} (h : numR l = some (n, c)) : n < 4096 ∧ 1 ≤ c ∧ c ≤ l.length := by
  unfold numR at h
  split at h
  · cases h
  · rename_i h1
    have h2 := numGo_le 5 l 0 0
    have h3 := Option.some.inj h
    rw [h3] at h1 h2
    simp only at h1 h2
    omega
/-- a run that a text begins with: its first place, how many, how many bytes stand for it -/
def nrun (l : List UInt8) : Option (Nat × Nat × Nat) :=
  match numR l with
  | none => none
  | some (a, c) => if c < l.length ∧ l.getD c 0 = 45 then (match numR (l.drop (c + 1)) with | none => none | some (b, c2) => if b ≤ a then none else some (a, b - a + 1, c + 1 + c2)) else some (a, 1, c)
def runsR : Nat → List UInt8 → List (Int × Int) → Option (List (Int × Int))
  | 0, _, _ => none
  | f + 1, l, acc =>
    match nrun l with
    | none => none
    | some (a, m, c) => if c = l.length then some (acc ++ [((a : Int), (m : Int))]) else if l.getD c 0 = 44 then runsR f (l.drop (c + 1)) (acc ++ [((a : Int), (m : Int))]) else none
theorem runsR_no {f : Nat} {l : List UInt8} {acc : List (Int × Int)} (h : nrun l = none) : runsR (f + 1) l acc = none := by rw [runsR, h]
theorem runsR_end {f : Nat} {l : List UInt8} {acc : List (Int × Int)} {a m c : Nat} (h : nrun l = some (a, m, c)) (hc : c = l.length) : runsR (f + 1) l acc = some (acc ++ [((a : Int), (m : Int))]) := by rw [runsR, h]; exact if_pos hc
theorem runsR_bad {f : Nat} {l : List UInt8} {acc : List (Int × Int)} {a m c : Nat} (h : nrun l = some (a, m, c)) (hc : c ≠ l.length) (hx : l.getD c 0 ≠ 44) : runsR (f + 1) l acc = none := by
  rw [runsR, h]; show (if _ then _ else if _ then _ else none) = none; rw [if_neg hc, if_neg hx]
theorem runsR_go {f : Nat} {l : List UInt8} {acc : List (Int × Int)} {a m c : Nat} (h : nrun l = some (a, m, c)) (hc : c ≠ l.length) (hx : l.getD c 0 = 44) : runsR (f + 1) l acc = runsR f (l.drop (c + 1)) (acc ++ [((a : Int), (m : Int))]) := by
  rw [runsR, h]; show (if _ then _ else if _ then _ else none) = _; rw [if_neg hc, if_pos hx]
def RRes (B : Nat) (l : List UInt8) (v : Value) (bb : Bool) (w' : World) : Prop :=
  (runsR (l.length + 1) l [] = none ∧ v = .slice none 0 0 ∧ bb = false) ∨ ∃ rs, runsR (l.length + 1) l [] = some rs ∧ bb = true ∧ OR B w' v rs ∧ rs.length ≤ 4097
end Go.Proofs.YtnpcbcfjnhjmmaaGreatDoor
