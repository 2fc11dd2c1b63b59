import Derived.Test.YtdlnnnlmlaploabDoorM24
import Derived.Test.YtdlnnnlmlaploabDoorM23
namespace Go.Proofs.YtdlnnnlmlaploabDoor
open Go.RowKit Go.Deep
/-! ### The reference's step -/
def stM (k : Int) (here : Nat) (nm : Int) (ky : ByteArray) (x : Vi) : Prop := x.up = (here : Int) ∧ ((k = 3 ∧ x.nt = nm) ∨ (k = 4 ∧ x.ky = ky))
/-- what step answers -/
def STO (l : List Vi) (here : Nat) (nm : Int) (ky : ByteArray) (r : Nat) (er : Int) : Prop :=
  ∃ y, l[here]? = some y ∧ ((¬ (y.kd = 3 ∨ y.kd = 4) ∧ r = 0 ∧ er = 31) ∨ ((y.kd = 3 ∨ y.kd = 4) ∧ ((er = 0 ∧ here < r ∧ (∃ x, l[r]? = some x ∧ stM y.kd here nm ky x) ∧ ∀ j x, here < j → j < r → l[j]? = some x → ¬ stM y.kd here nm ky x) ∨ (r = 0 ∧ er = 30 ∧ ∀ j x, here < j → l[j]? = some x → ¬ stM y.kd here nm ky x))))
set_option maxRecDepth 10000 in
set_option maxHeartbeats 2000000 in
theorem step31 (v : Value) (l : List Vi) (w : World) (here : Nat) (nm : Int) (ky : ByteArray) (hl : l.length ≤ 1048577) (hh : here < l.length) (h : RSp w v l) :
    Calls Tryd.prog 53 #[v, .int .i64 here, .agg #[.int .i64 nm, .string ky]] w fun e w' => ∃ (r : Nat) (er : Int), e = .returned (.tuple #[.int .i64 r, .int .i64 er]) ∧ STO l here nm ky r er ∧ Below w.heap.size w w' := by
  obtain ⟨a, c, rfl, h⟩ := h
  rcases h with rfl | ⟨g, rfl, hg, hc⟩
  · simp at hh
  obtain ⟨⟨ykd, yfr, yto, ydp, yup, ynt, yky, ypl, yfi⟩, hy⟩ : ∃ y, l[here]? = some y := ⟨_, List.getElem?_eq_getElem hh⟩
  have b0 : Below w.heap.size w (w.alloc (Obj.cells #[.int .i64 nm, .string ky] 55)) := (Below.refl _ _).alloc (Nat.le_refl _) _
  have HS : Hid (Below w.heap.size w (w.alloc (Obj.cells #[.int .i64 nm, .string ky] 55)) ∧ blk (w.alloc (Obj.cells #[.int .i64 nm, .string ky] 55)) w.heap.size 55 #[.int .i64 nm, .string ky] ∧ (∀ i x, l[i]? = some x → seven (w.alloc (Obj.cells #[.int .i64 nm, .string ky] 55)) g (i * 7) x)) := ⟨b0, heap_new _ _, fun i x hi => (hc i x hi).keep (b0.block g hg)⟩
  have HY := Lib.hid hy
  clear hc b0 hg hy
  generalize hn : l.length = n at *
  have HN := Lib.hid hn
  clear hn
  have hh0 : (0 : Int) ≤ (here : Int) := by omega
  have hh1 : (here : Int) < (n : Int) := by omega
  obtain ⟨s0, s1, s2, s3, s4, s5, s6⟩ := HS.out.2.2 here _ HY.out
  have p0 : (w.alloc (Obj.cells #[.int .i64 nm, .string ky] 55)).cell? ⟨w.heap.size, 0, none⟩ = some (.int .i64 nm) := HS.out.2.1.cell 0
  have p1 : (w.alloc (Obj.cells #[.int .i64 nm, .string ky] 55)).cell? ⟨w.heap.size, 1, none⟩ = some (.string ky) := HS.out.2.1.cell 1
  by_cases hk3 : ykd = 3
  · subst hk3
    go_enter Tryd.func53, Tryd.ntmps53
    go_wp2
    have HBS := Lib.hid HS.out
    clear HS s0 s1 s2 s3 s4 s5 s6
    generalize (w.alloc (Obj.cells #[.int .i64 nm, .string ky] 55)) = w0 at *
    generalize hvb : w.heap.size = vb at *
    have HBQ : Hid (Below w.heap.size w w0) := by rw [hvb]; exact HBS.out.1
    clear hvb
    go_loopw [9] (fun t wr => ∃ j nq : Nat, here < j ∧ j ≤ n ∧ t = .int .i64 j ∧ wr = w0.drewN nq ∧ Hid (∀ i x, here < i → i < j → l[i]? = some x → ¬ stM 3 here nm ky x)) (fun t _ => n - (intOf t).toNat)
    case atStart => exact ⟨here + 1, 0, by omega, by omega, by go_num, rfl, Lib.hid fun i x h1 h2 => by omega⟩
    case round =>
    obtain ⟨j, nq, hj0, hj, rfl, rfl, HNO⟩ := hrel
    by_cases hlt : j < n
    · obtain ⟨⟨kd, fr, to, dp, up, nt, kyx, pl, fi⟩, hx⟩ : ∃ x, l[j]? = some x := ⟨_, List.getElem?_eq_getElem (by rw [HN.out]; exact hlt)⟩
      have HX := Lib.hid hx
      obtain ⟨x0, x1, x2, x3, x4, x5, x6⟩ := HBS.out.2.2 j _ hx
      clear hx
      have j0 : (0 : Int) ≤ (j : Int) := by omega
      have j1 : (j : Int) < (n : Int) := by omega
      by_cases hu : up = (here : Int)
      · subst hu
        by_cases hm : nt = nm
        · subst hm
          go_wp2
          go_quiet (fail)
          go_wp2
          go_ret2
          exact ⟨j, 0, rfl, ⟨_, HY.out, .inr ⟨.inl rfl, .inl ⟨rfl, by omega, ⟨_, HX.out, rfl, .inl ⟨rfl, rfl⟩⟩, HNO.out⟩⟩⟩, ⟨HBQ.out.os, HBQ.out.tape, HBQ.out.output, HBQ.out.size, HBQ.out.block⟩⟩
        · have hm' : (nt == nm) = false := beq_eq_false_iff_ne.2 hm
          go_wp2
          go_quiet (fail)
          go_wp2
          refine ⟨⟨j + 1, _, by omega, by omega, by go_num, rfl, ?_⟩, by simp [intOf]; omega⟩
          refine Lib.hid fun i x' h1 h2 h3 => ?_
          by_cases hij : i = j
          · subst hij
            obtain rfl := Option.some.inj (HX.out.symm.trans h3)
            exact fun hm => by rcases hm.2 with ⟨_, e⟩ | ⟨e, _⟩; exact absurd e ‹¬ nt = nm›; cases e
          · exact HNO.out i x' h1 (by omega) h3
      · have hu' : (up == (here : Int)) = false := beq_eq_false_iff_ne.2 hu
        go_wp2
        go_quiet (fail)
        go_wp2
        refine ⟨⟨j + 1, _, by omega, by omega, by go_num, rfl, ?_⟩, by simp [intOf]; omega⟩
        refine Lib.hid fun i x' h1 h2 h3 => ?_
        by_cases hij : i = j
        · subst hij
          obtain rfl := Option.some.inj (HX.out.symm.trans h3)
          exact fun hm => by exact absurd hm.1 hu
        · exact HNO.out i x' h1 (by omega) h3
    · go_wp2
      go_ret2
      exact ⟨0, 30, rfl, ⟨_, HY.out, .inr ⟨.inl rfl, .inr ⟨rfl, rfl, fun i x h1 h2 => HNO.out i x h1 (by have := (List.getElem?_eq_some_iff.1 h2).1; have := HN.out; omega) h2⟩⟩⟩, ⟨HBQ.out.os, HBQ.out.tape, HBQ.out.output, HBQ.out.size, HBQ.out.block⟩⟩
  by_cases hk4 : ykd = 4
  · subst hk4
    go_enter Tryd.func53, Tryd.ntmps53
    go_wp2
    have HBS := Lib.hid HS.out
    clear HS s0 s1 s2 s3 s4 s5 s6
    generalize (w.alloc (Obj.cells #[.int .i64 nm, .string ky] 55)) = w0 at *
    generalize hvb : w.heap.size = vb at *
    have HBQ : Hid (Below w.heap.size w w0) := by rw [hvb]; exact HBS.out.1
    clear hvb
    go_loopw [9] (fun t wr => ∃ j nq : Nat, here < j ∧ j ≤ n ∧ t = .int .i64 j ∧ wr = w0.drewN nq ∧ Hid (∀ i x, here < i → i < j → l[i]? = some x → ¬ stM 4 here nm ky x)) (fun t _ => n - (intOf t).toNat)
    case atStart => exact ⟨here + 1, 0, by omega, by omega, by go_num, rfl, Lib.hid fun i x h1 h2 => by omega⟩
    case round =>
    obtain ⟨j, nq, hj0, hj, rfl, rfl, HNO⟩ := hrel
    by_cases hlt : j < n
    · obtain ⟨⟨kd, fr, to, dp, up, nt, kyx, pl, fi⟩, hx⟩ : ∃ x, l[j]? = some x := ⟨_, List.getElem?_eq_getElem (by rw [HN.out]; exact hlt)⟩
      have HX := Lib.hid hx
      obtain ⟨x0, x1, x2, x3, x4, x5, x6⟩ := HBS.out.2.2 j _ hx
      clear hx
      have j0 : (0 : Int) ≤ (j : Int) := by omega
      have j1 : (j : Int) < (n : Int) := by omega
      by_cases hu : up = (here : Int)
      · subst hu
        by_cases hm : kyx = ky
        · subst hm
          go_wp2
          go_quiet (fail)
          go_wp2
          go_ret2
          exact ⟨j, 0, rfl, ⟨_, HY.out, .inr ⟨.inr rfl, .inl ⟨rfl, by omega, ⟨_, HX.out, rfl, .inr ⟨rfl, rfl⟩⟩, HNO.out⟩⟩⟩, ⟨HBQ.out.os, HBQ.out.tape, HBQ.out.output, HBQ.out.size, HBQ.out.block⟩⟩
        · have hm' : (kyx.toList == ky.toList) = false := beq_eq_false_iff_ne.2 (fun e => hm (ba_ext (by rw [← ByteArray.toList_eq, ← ByteArray.toList_eq]; exact e)))
          go_wp2
          go_quiet (fail)
          go_wp2
          refine ⟨⟨j + 1, _, by omega, by omega, by go_num, rfl, ?_⟩, by simp [intOf]; omega⟩
          refine Lib.hid fun i x' h1 h2 h3 => ?_
          by_cases hij : i = j
          · subst hij
            obtain rfl := Option.some.inj (HX.out.symm.trans h3)
            exact fun hm => by rcases hm.2 with ⟨e, _⟩ | ⟨_, e⟩; cases e; exact absurd e ‹¬ kyx = ky›
          · exact HNO.out i x' h1 (by omega) h3
      · have hu' : (up == (here : Int)) = false := beq_eq_false_iff_ne.2 hu
        go_wp2
        go_quiet (fail)
        go_wp2
        refine ⟨⟨j + 1, _, by omega, by omega, by go_num, rfl, ?_⟩, by simp [intOf]; omega⟩
        refine Lib.hid fun i x' h1 h2 h3 => ?_
        by_cases hij : i = j
        · subst hij
          obtain rfl := Option.some.inj (HX.out.symm.trans h3)
          exact fun hm => by exact absurd hm.1 hu
        · exact HNO.out i x' h1 (by omega) h3
    · go_wp2
      go_ret2
      exact ⟨0, 30, rfl, ⟨_, HY.out, .inr ⟨.inr rfl, .inr ⟨rfl, rfl, fun i x h1 h2 => HNO.out i x h1 (by have := (List.getElem?_eq_some_iff.1 h2).1; have := HN.out; omega) h2⟩⟩⟩, ⟨HBQ.out.os, HBQ.out.tape, HBQ.out.output, HBQ.out.size, HBQ.out.block⟩⟩
  · have k3' : (ykd != 3) = true := by simpa using hk3
    have k4' : (ykd != 4) = true := by simpa using hk4
    go_enter Tryd.func53, Tryd.ntmps53
    go_wp2
    go_ret2
    exact ⟨0, 31, rfl, ⟨_, HY.out, .inl ⟨fun h => h.elim hk3 hk4, rfl, rfl⟩⟩, HS.out.1⟩
end Go.Proofs.YtdlnnnlmlaploabDoor
namespace Go.Proofs.YtdlnnnlmlaploabDoor
/-! ### Where follow comes to: plain lists -/
/-- the path leads in d steps to the place r -/
inductive Led (p : List (Int × ByteArray)) (L : List Vi) : Nat → Nat → Prop where
  | root : Led p L 0 0
  | next {d r r' : Nat} {n : Int} {k : ByteArray} {y x : Vi} : Led p L d r → p[d]? = some (n, k) → L[r]? = some y → (y.kd = 3 ∨ y.kd = 4) → r < r' → L[r']? = some x → stM y.kd r n k x → (∀ (j : Nat) (z : Vi), r < j → j < r' → L[j]? = some z → ¬ stM y.kd r n k z) → Led p L (d + 1) r'
theorem Led.le {p : List (Int × ByteArray)} {L : List Vi} {d r : Nat} (h : Led p L d r) : d ≤ p.length := by
  cases h with
  | root => exact Nat.zero_le _
  | next _ h _ _ _ _ _ _ => exact (List.getElem?_eq_some_iff.1 h).1
def Sub (K L : List Vi) : Prop := ∀ (j : Nat) (x : Vi), K[j]? = some x → ∃ y, L[j]? = some y ∧ Eq6 x y
theorem stM.eq {k : Int} {r : Nat} {n : Int} {s : ByteArray} {x y : Vi} (h : stM k r n s x) (e : Eq6 x y) : stM k r n s y := by
  unfold stM at h ⊢
  rw [e.up, e.nt, e.ky]
  exact h
theorem Led.mono {p : List (Int × ByteArray)} {K L : List Vi} (hs : Sub K L) {d r : Nat} (h : Led p K d r) : Led p L d r := by
  induction h with
  | root => exact .root
  | @next d r r' n k y x _ h1 h2 h3 h4 h5 h6 h7 ih =>
    obtain ⟨y', hy', ey⟩ := hs r y h2
    obtain ⟨x', hx', ex⟩ := hs r' x h5
    refine .next ih h1 hy' (by rw [ey.kd]; exact h3) h4 hx' (by rw [ey.kd]; exact h6.eq ex) fun j z hj1 hj2 hz => ?_
    rw [ey.kd]
    have hl := (List.getElem?_eq_some_iff.1 h5).1
    have hjl : j < K.length := by omega
    obtain ⟨z', hz', ez⟩ := hs j _ (List.getElem?_eq_getElem hjl)
    obtain rfl := Option.some.inj (hz.symm.trans hz')
    exact fun hm => h7 j _ hj1 hj2 (List.getElem?_eq_getElem hjl) (hm.eq ez.symm)
theorem sub_app (K B : List Vi) : Sub K (K ++ B) := fun j x hx => ⟨x, by rw [List.getElem?_append_left (List.getElem?_eq_some_iff.1 hx).1]; exact hx, .refl x⟩
theorem get_modify (K : List Vi) (k : Nat) (to : Int) (j : Nat) : (K.modify k fun x => { x with to := to })[j]? = (K[j]?).map fun x => if k = j then { x with to := to } else x := by
  rw [List.getElem?_modify]; rfl
theorem sub_modify (K : List Vi) (k : Nat) (to : Int) : Sub K (K.modify k fun x => { x with to := to }) := fun j x hx => by
  refine ⟨if k = j then { x with to := to } else x, by rw [get_modify, hx]; rfl, ?_⟩
  split
  · exact ⟨rfl, rfl, rfl, rfl, rfl, rfl⟩
  · exact .refl x
theorem modify_sub (K : List Vi) (k : Nat) (to : Int) : Sub (K.modify k fun x => { x with to := to }) K := fun j x hx => by
  rw [get_modify, Option.map_eq_some_iff] at hx
  obtain ⟨y, hy, rfl⟩ := hx
  refine ⟨y, hy, ?_⟩
  split
  · exact ⟨rfl, rfl, rfl, rfl, rfl, rfl⟩
  · exact .refl y
theorem sk_new {h : List Vi} {v : Vi} (hp : v.pl = ((sk h).length : Int)) : sk (h ++ [v]) = sk h ++ [v] := by
  rw [sk_snoc]
  unfold skStep
  rw [if_pos hp, hp]
  exact modify_mid (fun x : Vi => { x with to := v.to }) v [] (sk h)
theorem sk_old {h : List Vi} {v : Vi} {k : Nat} (hp : v.pl = (k : Int)) (hk : k < (sk h).length) : sk (h ++ [v]) = (sk h).modify k fun x => { x with to := v.to } := by
  rw [sk_snoc]
  unfold skStep
  rw [if_neg (by omega), hp]
  rfl
/-- the place of the one above -/
def upOf : List Lv → Int
  | [] => -1
  | l :: _ => l.pl
/-- a level as it was shown when it began -/
def Lv.bg (l : Lv) : Vi := ⟨l.kd, l.fr, 0, l.dp, l.up, l.nt, l.ky, l.pl, l.fi⟩
/-- how the levels hang together, and what was kept of them -/
def LK (K : List Vi) : List Lv → Prop
  | [] => True
  | l :: r => (l.up = upOf r ∧ l.dp = (r.length : Int) ∧ upOf r < l.pl ∧ ∃ x, K[l.pl.toNat]? = some x ∧ Eq6 l.bg x) ∧ LK K r
theorem LK.mono {K L : List Vi} (hs : Sub K L) : ∀ {ls : List Lv}, LK K ls → LK L ls
  | [], _ => trivial
  | _ :: _, ⟨⟨h1, h2, h3, x, h4, h5⟩, h⟩ => by
    obtain ⟨y, hy, e⟩ := hs _ x h4
    exact ⟨⟨h1, h2, h3, y, hy, h5.trans e⟩, h.mono hs⟩
theorem LK.up {K : List Vi} : ∀ {ls : List Lv}, LK K ls → -1 ≤ upOf ls
  | [], _ => Int.le_refl _
  | _ :: r, h => by
    have := LK.up (ls := r) h.2
    have := h.1.2.2.1
    show -1 ≤ Lv.pl _
    omega
theorem LK.lt {K : List Vi} : ∀ {u : List Lv} {l : Lv} {r : List Lv}, LK K (u ++ l :: r) → ∀ a ∈ u, l.pl < a.pl
  | [], _, _, _, _, ha => by cases ha
  | a :: u, l, r, h, x, hx => by
    rcases List.mem_cons.1 hx with rfl | hx
    · have h3 := h.1.2.2.1
      cases u with
      | nil => exact h3
      | cons c u =>
        have h4 : c.pl < x.pl := h3
        have := LK.lt (u := c :: u) h.2 c (by simp)
        omega
    · exact LK.lt (u := u) h.2 x hx
theorem LK.mem {K : List Vi} : ∀ {u : List Lv} {l : Lv} {r : List Lv}, LK K (u ++ l :: r) → LK K (l :: r)
  | [], _, _, h => h
  | _ :: u, _, _, h => LK.mem (u := u) h.2
/-- what is known of a value that begins -/
theorem vg_facts {b : List UInt8} (hlim : b.length ≤ 1048576) {go : List Vi → Bool} {h : List Vi} {ls : List Lv} {i n : Nat} {v : Vi} {ls' : List Lv} {i' : Nat} (hr : Rch b go h (.val ls i n)) (hv : VG b ls i n v ls' i') :
    v.pl = (n : Int) ∧ v.up = upOf ls ∧ v.dp = (ls.length : Int) ∧ ((v.to ≠ 0 ∧ ls' = ls) ∨ (v.to = 0 ∧ ls' = newL v :: ls ∧ (v.kd = 3 ∨ v.kd = 4) ∧ (newL v).bg = v)) := by
  have hi : i ≤ b.length := (hr.ok hlim).1
  have hu : (dueV ls i n).up = upOf ls := by cases ls <;> rfl
  obtain ⟨d1, d2, d3, d4⟩ := due_fr' ls i n
  rcases hv with ⟨t, j, c1, c2, c3, rfl, rfl, rfl⟩ | ⟨c1, c2, c3, rfl, rfl⟩
  · have hj := leaf_pos hi hlim c1 c2 c3
    exact ⟨d3, hu, due_dpt _ _ _, .inl ⟨by show (i : Int) + (j : Int) ≠ 0; omega, rfl⟩⟩
  · have key : ∀ kdv : Int, (kdv = 3 ∨ kdv = 4) → v = { dueV ls i n with kd := kdv } → v.pl = (n : Int) ∧ v.up = upOf ls ∧ v.dp = (ls.length : Int) ∧ ((v.to ≠ 0 ∧ newL v :: ls = ls) ∨ (v.to = 0 ∧ newL v :: ls = newL v :: ls ∧ (v.kd = 3 ∨ v.kd = 4) ∧ (newL v).bg = v)) := by
      intro kdv hk hv
      subst hv
      refine ⟨d3, hu, due_dpt _ _ _, .inr ⟨d2, rfl, hk, ?_⟩⟩
      show (⟨_, _, 0, _, _, _, _, _, _⟩ : Vi) = ⟨_, _, (dueV ls i n).to, _, _, _, _, _, _⟩
      rw [d2]
      rfl
    rcases c3 with ⟨_, hv⟩ | ⟨_, hv⟩
    · exact key 3 (.inl rfl) hv
    · exact key 4 (.inr rfl) hv
theorem part_same {b : List UInt8} {l l' : Lv} {i i' : Nat} (hp : PGd b l i l' i') : l'.bg = l.bg := by
  rcases hp with ⟨_, rfl, _⟩ | ⟨_, _, t, j, _, _, rfl, _⟩ <;> rfl
theorem bg_fields {l l' : Lv} (h : l'.bg = l.bg) : l'.kd = l.kd ∧ l'.up = l.up ∧ l'.dp = l.dp ∧ l'.pl = l.pl :=
  ⟨congrArg Vi.kd h, congrArg Vi.up h, congrArg Vi.dp h, congrArg Vi.pl h⟩
theorem Rch.lk {b : List UInt8} (hlim : b.length ≤ 1048576) {go : List Vi → Bool} {h : List Vi} {s : RS} (H : Rch b go h s) : LK (sk h) s.ls := by
  induction H with
  | start => trivial
  | @value h ls i n v ls' i' hr hv _ ih =>
    obtain ⟨f1, f2, f3, f4⟩ := vg_facts hlim hr hv
    obtain ⟨pn, pl⟩ := hr.places
    have pn' : (sk h).length = n := pn
    have ih' : LK (sk h) ls := ih
    rw [sk_new (by rw [pn']; exact f1)]
    have hb := ih'.mono (sub_app (sk h) [v])
    show LK _ ls'
    rcases f4 with ⟨_, rfl⟩ | ⟨_, rfl, _, hbg⟩
    · exact hb
    · obtain ⟨_, g2, g3, g4⟩ := (⟨rfl, rfl, rfl, rfl⟩ : (newL v).kd = v.kd ∧ (newL v).up = v.up ∧ (newL v).dp = v.dp ∧ (newL v).pl = v.pl)
      refine ⟨⟨g2.trans f2, g3.trans f3, ?_, v, ?_, by rw [hbg]; exact .refl v⟩, hb⟩
      · rw [g4, f1]
        cases ls with
        | nil => show (-1 : Int) < _; omega
        | cons l r => exact (pl l (by simp [RS.ls])).2
      · rw [g4, f1, show ((n : Int)).toNat = n from rfl, ← pn']
        simp
  | @part h l r i n l' i' _ _ hp ih =>
    obtain ⟨⟨h1, h2, h3, x, h4, h5⟩, h6⟩ : LK (sk h) (l :: r) := ih
    have e := part_same hp
    obtain ⟨_, e2, e3, e4⟩ := bg_fields e
    exact ⟨⟨e2.trans h1, e3.trans h2, by rw [e4]; exact h3, x, by rw [e4]; exact h4, by rw [e]; exact h5⟩, h6⟩
  | @close h l r i n hr _ _ _ ih =>
    obtain ⟨_, h6⟩ : LK (sk h) (l :: r) := ih
    obtain ⟨pn, pl⟩ := hr.places
    have pn' : (sk h).length = n := pn
    have hl := pl l (by simp [RS.ls])
    have hl2 : l.pl < (n : Int) := hl.2
    rw [sk_old (v := endV l i) (k := l.pl.toNat) (by show l.pl = _; omega) (by omega)]
    exact h6.mono (sub_modify _ _ _)
/-! ### One value more -/
theorem fw_lead {p : List (Int × ByteArray)} {q v : Vi} (h1 : v.up = q.pl) (h2 : leadsP p q.kd v = true) : fw p q v = (v, decide (v.to = 0)) := by
  unfold fw fwS
  rw [if_pos ⟨h1, h2⟩]
  by_cases ht : v.to = 0
  · rw [fwE_miss (fun h => h.2 ht)]; simp [ht]
  · rw [fwE_hit rfl ht]; simp [ht]
theorem fw_past {p : List (Int × ByteArray)} {q v : Vi} (h1 : ¬ (v.up = q.pl ∧ leadsP p q.kd v = true)) (h2 : v.pl ≠ q.pl) : fw p q v = (q, true) := by
  unfold fw fwS
  rw [if_neg h1, fwE_miss (fun h => h2 h.1)]
theorem fw_end {p : List (Int × ByteArray)} {q v : Vi} (h1 : ¬ (v.up = q.pl ∧ leadsP p q.kd v = true)) (h2 : v.pl = q.pl) (h3 : v.to ≠ 0) : fw p q v = (v, false) := by
  unfold fw fwS
  rw [if_neg h1, fwE_hit h2 h3]
theorem leads_iff {p : List (Int × ByteArray)} {ar : Int} {v : Vi} {d here : Nat} (ha : ar = 3 ∨ ar = 4) (hd : v.dp = ((d + 1 : Nat) : Int)) (hu : v.up = (here : Int)) : leadsP p ar v = true ↔ ∃ n k, p[d]? = some (n, k) ∧ stM ar here n k v := by
  unfold leadsP
  rw [if_neg (by rw [hd]; omega), hd, show (((d + 1 : Nat) : Int) - 1).toNat = d by omega]
  cases hp : p[d]? with
  | none => exact ⟨fun h => by simp at h, fun ⟨n, k, h, _⟩ => by cases h⟩
  | some nk =>
    obtain ⟨n, k⟩ := nk
    dsimp only
    constructor
    · intro h
      refine ⟨n, k, rfl, hu, ?_⟩
      rcases ha with rfl | rfl
      · rw [if_pos rfl] at h
        exact .inl ⟨rfl, by simpa using (beq_iff_eq.1 h).symm⟩
      · rw [if_neg (by decide)] at h
        exact .inr ⟨rfl, ba_ext (by rw [← ByteArray.toList_eq, ← ByteArray.toList_eq]; exact (beq_iff_eq.1 h).symm)⟩
    · rintro ⟨n', k', e, _, h⟩
      cases e
      rcases h with ⟨rfl, h⟩ | ⟨rfl, h⟩
      · rw [if_pos rfl, h]; exact beq_self_eq_true _
      · rw [if_neg (by decide), h]; exact beq_self_eq_true _
def NoM (p : List (Int × ByteArray)) (K : List Vi) (l : Lv) (d : Nat) : Prop := ∀ n k, p[d]? = some (n, k) → ∀ (j : Nat) (x : Vi), l.pl.toNat < j → K[j]? = some x → ¬ stM l.kd l.pl.toNat n k x
/-- follow stands at a level that is open -/
def FI (p : List (Int × ByteArray)) (K : List Vi) (q : Vi) (ls : List Lv) : Prop := ∃ u l r, ls = u ++ l :: r ∧ q = l.bg ∧ (l.kd = 3 ∨ l.kd = 4) ∧ Led p K r.length l.pl.toNat ∧ NoM p K l r.length
theorem fw_value {p : List (Int × ByteArray)} {K : List Vi} {q : Vi} {ls : List Lv} {v : Vi} (h : (K = [] ∧ ls = [] ∧ q = fw0) ∨ FI p K q ls) (hk : LK K ls) (hp : ∀ l ∈ ls, l.pl < (K.length : Int)) (v1 : v.pl = (K.length : Int)) (v2 : v.up = upOf ls) (v3 : v.dp = (ls.length : Int)) :
    (fw p q v = (v, decide (v.to = 0)) ∧ Led p (K ++ [v]) ls.length K.length) ∨ (fw p q v = (q, true) ∧ FI p (K ++ [v]) q ls) := by
  rcases h with ⟨rfl, rfl, rfl⟩ | ⟨u, l, r, rfl, rfl, hc, hl, hn⟩
  · refine .inl ⟨fw_lead v2 ?_, .root⟩
    unfold leadsP
    rw [if_pos (show v.dp = 0 from v3)]
  · have hm := hk.mem
    obtain ⟨⟨k1, k2, k3, y, k4, k5⟩, k6⟩ := hm
    have h0 : 0 ≤ l.pl := by have := k6.up; omega
    have hlt : l.pl < (K.length : Int) := hp l (by simp)
    have hne : v.pl ≠ l.bg.pl := by show v.pl ≠ l.pl; omega
    have newNoM : (∀ n k, p[r.length]? = some (n, k) → ¬ stM l.kd l.pl.toNat n k v) → NoM p (K ++ [v]) l r.length := by
      intro hv n k hpk j x hj hx
      by_cases hjl : j < K.length
      · rw [List.getElem?_append_left hjl] at hx
        exact hn n k hpk j x hj hx
      · rw [List.getElem?_append_right (by omega)] at hx
        have hjl' := (List.getElem?_eq_some_iff.1 hx).1
        have : j - K.length = 0 := by simp at hjl'; omega
        rw [this] at hx
        obtain rfl := Option.some.inj hx
        exact hv n k hpk
    cases u with
    | nil =>
      have v2' : v.up = l.pl := v2
      have v2n : v.up = (l.pl.toNat : Int) := by omega
      have v3' : v.dp = ((r.length + 1 : Nat) : Int) := v3
      by_cases hle : leadsP p l.kd v = true
      · refine .inl ⟨fw_lead v2' hle, ?_⟩
        obtain ⟨n, k, hpk, hst⟩ := (leads_iff hc v3' v2n).1 hle
        have hyk : y.kd = l.kd := k5.kd
        show Led p (K ++ [v]) (r.length + 1) K.length
        refine .next (y := y) (x := v) (hl.mono (sub_app K [v])) hpk (by rw [List.getElem?_append_left (by omega)]; exact k4) (by rw [hyk]; exact hc) (by omega) (by simp) (by rw [hyk]; exact hst) fun j z hj1 hj2 hz => ?_
        rw [List.getElem?_append_left hj2] at hz
        rw [hyk]
        exact hn n k hpk j z hj1 hz
      · refine .inr ⟨fw_past (fun h => hle h.2) hne, [], l, r, rfl, rfl, hc, hl.mono (sub_app K [v]), newNoM fun n k hpk hst => hle ((leads_iff hc v3' v2n).2 ⟨n, k, hpk, hst⟩)⟩
    | cons a u =>
      have hal : l.pl < a.pl := hk.lt a (by simp)
      have v2' : v.up = a.pl := v2
      exact .inr ⟨fw_past (fun h => by have h1 : v.up = l.pl := h.1; omega) hne, a :: u, l, r, rfl, rfl, hc, hl.mono (sub_app K [v]), newNoM fun n k hpk hst => by have := hst.1; omega⟩
theorem fw_close {p : List (Int × ByteArray)} {K : List Vi} {q : Vi} {l0 : Lv} {r0 : List Lv} {i : Nat} (h : FI p K q (l0 :: r0)) (hk : LK K (l0 :: r0)) :
    (fw p q (endV l0 i) = (endV l0 i, false) ∧ (l0.kd = 3 ∨ l0.kd = 4) ∧ Led p K r0.length l0.pl.toNat ∧ NoM p K l0 r0.length) ∨ (fw p q (endV l0 i) = (q, true) ∧ FI p K q r0) := by
  obtain ⟨u, l, r, e, rfl, hc, hl, hn⟩ := h
  have hto : (endV l0 i).to ≠ 0 := by show (i : Int) + 1 ≠ 0; omega
  cases u with
  | nil =>
    injection e with e1 e2
    subst e1 e2
    refine .inl ⟨fw_end (fun h => ?_) rfl hto, hc, hl, hn⟩
    have h1 : l0.up = l0.pl := h.1
    have h2 := hk.1.1
    have h3 := hk.1.2.2.1
    omega
  | cons a u =>
    injection e with e1 e2
    subst e1 e2
    have hal : l.pl < l0.pl := LK.lt (u := l0 :: u) hk l0 (by simp)
    have hm := LK.mem (u := l0 :: u) hk
    obtain ⟨⟨k1, k2, k3, y, k4, k5⟩, k6⟩ := hm
    have h0 : 0 ≤ l.pl := by have := k6.up; omega
    refine .inr ⟨fw_past (fun h => ?_) (by show l0.pl ≠ l.pl; omega), u, l, r, rfl, rfl, hc, hl, hn⟩
    have h1 : l0.up = l.pl := h.1
    have h2 : l0.up = upOf (u ++ l :: r) := hk.1.1
    cases u with
    | nil =>
      obtain ⟨x, hx, ex⟩ := hk.1.2.2.2
      have h3 : l0.dp = ((r.length + 1 : Nat) : Int) := hk.1.2.1
      obtain ⟨n, k, hpk, hst⟩ := (leads_iff (v := endV l0 i) (d := r.length) (here := l.pl.toNat) hc h3 (by show l0.up = _; omega)).1 h.2
      exact hn n k hpk l0.pl.toNat x (by omega) hx (hst.eq ⟨ex.kd, ex.fr, ex.dp, ex.up, ex.nt, ex.ky⟩)
    | cons c u =>
      have h3 : l0.up = c.pl := h2
      have h4 := LK.lt (u := c :: u) hk.2 c (by simp)
      omega
theorem NoM.mono {p : List (Int × ByteArray)} {K L : List Vi} (hs : Sub L K) {l : Lv} {d : Nat} (h : NoM p K l d) : NoM p L l d := fun n k hp j x hj hx hm => by
  obtain ⟨y, hy, e⟩ := hs j x hx
  exact h n k hp j y hj hy (hm.eq e)
theorem FI.mono {p : List (Int × ByteArray)} {K L : List Vi} (h1 : Sub K L) (h2 : Sub L K) {q : Vi} {ls : List Lv} (h : FI p K q ls) : FI p L q ls := by
  obtain ⟨u, l, r, e1, e2, hc, hl, hn⟩ := h
  exact ⟨u, l, r, e1, e2, hc, hl.mono h1, hn.mono h2⟩
theorem Rch.fi {b : List UInt8} (hlim : b.length ≤ 1048576) {p : List (Int × ByteArray)} {h : List Vi} {s : RS} (H : Rch b (goF p) h s) : (h = [] ∧ s = .val [] 0 0) ∨ FI p (sk h) (fwF p h).1 s.ls := by
  induction H with
  | start => exact .inl ⟨rfl, rfl⟩
  | @value h ls i n v ls' i' hr hv hg ih =>
    obtain ⟨f1, f2, f3, f4⟩ := vg_facts hlim hr hv
    obtain ⟨pn, pl⟩ := hr.places
    have pn' : (sk h).length = n := pn
    have hk : LK (sk h) ls := hr.lk hlim
    have ih' : (sk h = [] ∧ ls = [] ∧ (fwF p h).1 = fw0) ∨ FI p (sk h) (fwF p h).1 ls := by
      rcases ih with ⟨rfl, e⟩ | ih
      · injection e with e1
        exact .inl ⟨rfl, e1, rfl⟩
      · exact .inr ih
    have hg' : (fw p (fwF p h).1 v).2 = true := by rw [← fwF_snoc]; exact hg
    refine .inr ?_
    rw [sk_new (by rw [pn']; exact f1), fwF_snoc]
    show FI p _ _ ls'
    rcases fw_value (p := p) ih' hk (fun l hl => by rw [pn']; exact (pl l hl).2) (by rw [pn']; exact f1) f2 f3 with ⟨e, hled⟩ | ⟨e, hfi⟩
    · rw [e] at hg' ⊢
      have ht : v.to = 0 := by simpa using hg'
      rcases f4 with ⟨h1, _⟩ | ⟨_, rfl, hc, hbg⟩
      · exact absurd ht h1
      · have g1 : (newL v).kd = v.kd := rfl
        have g4 : (newL v).pl = v.pl := rfl
        have hpl : (newL v).pl.toNat = (sk h).length := by rw [g4, f1, pn']; rfl
        refine ⟨[], newL v, ls, rfl, hbg.symm, by rw [g1]; exact hc, by rw [hpl]; exact hled, fun n' k _ j x hj hx => ?_⟩
        rw [hpl] at hj
        rw [List.getElem?_eq_none (by simp; omega)] at hx
        cases hx
    · rw [e]
      rcases f4 with ⟨_, rfl⟩ | ⟨_, rfl, _, _⟩
      · exact hfi
      · obtain ⟨u, l, r, e1, e2, hc, hl, hn⟩ := hfi
        exact ⟨newL v :: u, l, r, by rw [e1]; rfl, e2, hc, hl, hn⟩
  | @part h l r i n l' i' _ _ hp ih =>
    rcases ih with ⟨_, e⟩ | ih
    · cases e
    · refine .inr ?_
      obtain ⟨u, l2, r2, e1, e2, hc, hl, hn⟩ := ih
      have e := part_same hp
      obtain ⟨g1, _, _, g4⟩ := bg_fields e
      cases u with
      | nil =>
        have e1' : l :: r = l2 :: r2 := e1
        injection e1' with e3 e4
        subst e3 e4
        refine ⟨[], l', r, rfl, by rw [e]; exact e2, by rw [g1]; exact hc, by rw [g4]; exact hl, fun n' k hpk j x hj hx => ?_⟩
        rw [g4] at hj ⊢
        rw [g1]
        exact hn n' k hpk j x hj hx
      | cons a u =>
        have e1' : l :: r = a :: (u ++ l2 :: r2) := e1
        injection e1' with e3 e4
        exact ⟨l' :: u, l2, r2, by rw [e4]; rfl, e2, hc, hl, hn⟩
  | @close h l r i n hr _ _ hg ih =>
    rcases ih with ⟨_, e⟩ | ih
    · cases e
    · refine .inr ?_
      have hk : LK (sk h) (l :: r) := hr.lk hlim
      obtain ⟨pn, pl⟩ := hr.places
      have pn' : (sk h).length = n := pn
      have hl := pl l (by simp [RS.ls])
      have hl2 : l.pl < (n : Int) := hl.2
      have hg' : (fw p (fwF p h).1 (endV l i)).2 = true := by rw [← fwF_snoc]; exact hg
      rw [sk_old (v := endV l i) (k := l.pl.toNat) (by show l.pl = _; omega) (by omega), fwF_snoc]
      rcases fw_close (i := i) (show FI p (sk h) (fwF p h).1 (l :: r) from ih) hk with ⟨e, _⟩ | ⟨e, hfi⟩
      · rw [e] at hg'; cases hg'
      · rw [e]
        exact hfi.mono (sub_modify _ _ _) (modify_sub _ _ _)
/-! ### How follow ends -/
structure FO2 (p : List (Int × ByteArray)) (L : List Vi) (q : Vi) (d r : Nat) (x : Vi) : Prop where
  dp : q.dp = (d : Int)
  led : Led p L d r
  at' : L[r]? = some x
  eq : Eq6 q x
  to : x.to = q.to
  no : (q.kd = 3 ∨ q.kd = 4) → ∀ n k, p[d]? = some (n, k) → ∀ (j : Nat) (z : Vi), r < j → L[j]? = some z → ¬ stM q.kd r n k z
theorem leaf_kd {b : List UInt8} (hlim : b.length ≤ 1048576) {go : List Vi → Bool} {h : List Vi} {ls : List Lv} {i n : Nat} {v : Vi} {ls' : List Lv} {i' : Nat} (hr : Rch b go h (.val ls i n)) (hv : VG b ls i n v ls' i') (ht : v.to ≠ 0) : ¬ (v.kd = 3 ∨ v.kd = 4) := by
  have hi : i ≤ b.length := (hr.ok hlim).1
  obtain ⟨d1, d2, d3, d4⟩ := due_fr' ls i n
  rcases hv with ⟨t, j, c1, c2, c3, rfl, rfl, rfl⟩ | ⟨c1, c2, c3, rfl, rfl⟩
  · show ¬ (t.k = 3 ∨ t.k = 4)
    rcases (leaf_val hi hlim c1 c2 c3).2.2 with e | e
    · rw [e]; show ¬ ((1 : Int) = 3 ∨ (1 : Int) = 4); omega
    · rw [e]; show ¬ ((2 : Int) = 3 ∨ (2 : Int) = 4); omega
  · rcases c3 with ⟨_, hv⟩ | ⟨_, hv⟩
    · exact absurd (by rw [hv]; exact d2) ht
    · exact absurd (by rw [hv]; exact d2) ht
theorem Fin.led {b : List UInt8} (hlim : b.length ≤ 1048576) {p : List (Int × ByteArray)} {h : List Vi} {pp e0 : Int} (H : Fin b (goF p) h pp e0) {t : T} {k : Nat} (hd : DOUT b t k 0) : ∃ d r x, FO2 p ((walkT t 0 (dueS [])).map Sp.v) (fwF p h).1 d r x := by
  have bad : ∀ {h : List Vi} {pp er : Int}, Fin b gT h pp er → er = 0 := fun hF => by
    obtain ⟨t', k', _, hd', _⟩ := hF.out hlim
    exact (DOUT.unique hd hd').2.2.symm
  cases H with
  | @vstop h ls i n v ls' i' hr hv hg =>
    obtain ⟨f1, f2, f3, f4⟩ := vg_facts hlim hr hv
    obtain ⟨pn, pl⟩ := hr.places
    have pn' : (sk h).length = n := pn
    have hk : LK (sk h) ls := hr.lk hlim
    have ih' : (sk h = [] ∧ ls = [] ∧ (fwF p h).1 = fw0) ∨ FI p (sk h) (fwF p h).1 ls := by
      rcases hr.fi hlim with ⟨rfl, e⟩ | ih
      · injection e with e1
        exact .inl ⟨rfl, e1, rfl⟩
      · exact .inr ih
    have hg' : (fw p (fwF p h).1 v).2 = false := by rw [← fwF_snoc]; exact hg
    have hsk : sk (h ++ [v]) = sk h ++ [v] := sk_new (by rw [pn']; exact f1)
    have hx := (Rch.value hr.free hv rfl).ext hlim hd
    rw [hsk] at hx
    rcases fw_value (p := p) ih' hk (fun l hl => by rw [pn']; exact (pl l hl).2) (by rw [pn']; exact f1) f2 f3 with ⟨e, hled⟩ | ⟨e, hfi⟩
    · rw [e] at hg'
      have ht : v.to ≠ 0 := by simpa using hg'
      rw [fwF_snoc, e]
      obtain ⟨x, hx1, hx2, hx3⟩ := hx.old (sk h).length v (by simp)
      exact ⟨ls.length, (sk h).length, x, f3, hled.mono (fun j y hy => by obtain ⟨z, g1, g2, _⟩ := hx.old j y hy; exact ⟨z, g1, g2⟩), hx1, hx2, hx3 ht, fun hc => absurd hc (leaf_kd hlim hr hv ht)⟩
    · rw [e] at hg'; cases hg'
  | @estop h l r i n hr hi hb hg =>
    rcases hr.fi hlim with ⟨_, e⟩ | ih
    · cases e
    · have hk : LK (sk h) (l :: r) := hr.lk hlim
      obtain ⟨pn, pl⟩ := hr.places
      have pn' : (sk h).length = n := pn
      have hl := pl l (by simp [RS.ls])
      have hl2 : l.pl < (n : Int) := hl.2
      have hl0 : 0 ≤ l.pl := hl.1
      have hg' : (fw p (fwF p h).1 (endV l i)).2 = false := by rw [← fwF_snoc]; exact hg
      have hsk : sk (h ++ [endV l i]) = (sk h).modify l.pl.toNat fun x => { x with to := (endV l i).to } := sk_old (by show l.pl = _; omega) (by omega)
      have hx := (Rch.close hr.free hi hb rfl).ext hlim hd
      rw [hsk] at hx
      rcases fw_close (i := i) (show FI p (sk h) (fwF p h).1 (l :: r) from ih) hk with ⟨e, hc, hled, hno⟩ | ⟨e, _⟩
      · rw [fwF_snoc, e]
        obtain ⟨y, hy, ey⟩ := hk.1.2.2.2
        have hy' : ((sk h).modify l.pl.toNat fun x => { x with to := (endV l i).to })[l.pl.toNat]? = some { y with to := (endV l i).to } := by
          rw [get_modify, hy]
          show some (if l.pl.toNat = l.pl.toNat then _ else _) = _
          rw [if_pos rfl]
        obtain ⟨x, hx1, hx2, hx3⟩ := hx.old _ _ hy'
        have hsub : Sub ((sk h).modify l.pl.toNat fun x => { x with to := (endV l i).to }) ((walkT t 0 (dueS [])).map Sp.v) := fun j y hy => by obtain ⟨z, g1, g2, _⟩ := hx.old j y hy; exact ⟨z, g1, g2⟩
        refine ⟨r.length, l.pl.toNat, x, hk.1.2.1, (hled.mono (sub_modify _ _ _)).mono hsub, hx1, ⟨hx2.kd.trans ey.kd, hx2.fr.trans ey.fr, hx2.dp.trans ey.dp, hx2.up.trans ey.up, hx2.nt.trans ey.nt, hx2.ky.trans ey.ky⟩, hx3 (by show (i : Int) + 1 ≠ 0; omega), fun _ n' k' hpk j z hj hz hst => ?_⟩
        show False
        by_cases hjl : j < ((sk h).modify l.pl.toNat fun x => { x with to := (endV l i).to }).length
        · obtain ⟨z', hz', ez, _⟩ := hx.old j _ (List.getElem?_eq_getElem hjl)
          obtain rfl := Option.some.inj (hz.symm.trans hz')
          exact (hno.mono (modify_sub _ _ _)) n' k' hpk j _ hj (List.getElem?_eq_getElem hjl) (hst.eq ez.symm)
        · have hzu : z.up = (l.pl.toNat : Int) := hst.1
          have hzu' : z.up = l.pl := by omega
          rcases hx.new j z (by omega) hz with (g | ⟨l2, hl2m, g⟩) | g
          · omega
          · have hl2m' : l2 ∈ r := hl2m
            obtain ⟨s1, s2, rfl⟩ := List.append_of_mem hl2m'
            have := LK.lt (u := l :: s1) hk l (by simp)
            omega
          · rw [List.length_modify] at g
            omega
      · rw [e] at hg'; cases hg'
  | vbad hr hz hv => exact absurd (bad (.vbad hr.free hz hv)) hz
  | pbad hr hb hp =>
    have e := bad (.pbad hr.free hb hp)
    subst e
    rcases hp.2 with ⟨_, e, _⟩ | ⟨_, ⟨_, _, e, _⟩ | ⟨_, _, _, _, _, e, _⟩⟩
    · cases e
    · exact absurd rfl e
    · cases e
  | trail hr hi => exact absurd (bad (.trail hr.free hi)) (by decide)
  | done hr hi =>
    rcases hr.fi hlim with ⟨_, e⟩ | ⟨u, l, r, e, _⟩
    · cases e
    · have := congrArg List.length e
      simp [RS.ls] at this
end Go.Proofs.YtdlnnnlmlaploabDoor
namespace Go.Proofs.YtdlnnnlmlaploabDoor
open Go.RowKit Go.Deep
theorem own_mono {w : World} {B B' k : Nat} {v : Value} {us : List Value} (hB : B' ≤ B) (h : w.ownsRow B 37 7 v k us) : w.ownsRow B' 37 7 v k us := by
  refine ⟨h.1, ?_⟩
  rcases h.2 with h | ⟨g, cap, cur, h1, h2, h3⟩
  · exact .inl h
  · exact .inr ⟨g, cap, cur, h1, Nat.le_trans hB h2, h3⟩
theorem built45u : Tryd.prog.built 37 [(4, .int .i64 (-1))] = some #[.int .i64 0, .int .i64 0, .int .i64 0, .int .i64 0, .int .i64 (-1), .int .i64 0, .string ByteArray.empty] := by kernel_rfl
set_option maxRecDepth 10000 in
set_option maxHeartbeats 2000000 in
theorem skim15 (v : Value) (b : List UInt8) (w : World) (hr : RB w v b) (hl0 : b.length ≤ 140737488351232) (hT : TB w.heap.size w) :
    Calls Tryd.prog 52 #[v] w fun e w' => ∃ sv k er, e = .returned (.tuple #[sv, .int .i64 (k : Nat), .int .i64 er]) ∧ SKA b w.heap.size w' sv k er ∧ Below w.heap.size w w' := by
  have HR := Lib.hid (And.intro hr hT)
  obtain ⟨a, c, rfl, _⟩ := hr
  clear hT
  go_enter Tryd.func52, Tryd.ntmps52
  go_wp2_with fail
  refine (decode11 _ b _ HR.out.1 hl0).mono ?_
  rintro e w2 ⟨t, x, y, k, er, rfl, hrv, hout, hb2⟩
  obtain ⟨⟨xa, xn, xc, rfl⟩, ⟨ya, yn, yc, rfl⟩⟩ := hrv.slices
  unfold vv
  have hba : Below w2.heap.size w2 (w2.alloc (Obj.cells #[.int .i64 t.k, .int .i64 t.n, .string t.s, .slice xa xn xc, .slice ya yn yc] 31)) := (Below.refl _ _).alloc (Nat.le_refl _) _
  have H3 : Hid (obj (w2.alloc (Obj.cells #[.int .i64 t.k, .int .i64 t.n, .string t.s, .slice xa xn xc, .slice ya yn yc] 31)) w2.heap.size (.int .i64 t.k) (.int .i64 t.n) (.string t.s) (.slice xa xn xc) (.slice ya yn yc) ∧
      RV (fun b => b < (w2.alloc (Obj.cells #[.int .i64 t.k, .int .i64 t.n, .string t.s, .slice xa xn xc, .slice ya yn yc] 31)).heap.size) (w2.alloc (Obj.cells #[.int .i64 t.k, .int .i64 t.n, .string t.s, .slice xa xn xc, .slice ya yn yc] 31)) t (.slice xa xn xc) (.slice ya yn yc) ∧
      Below w.heap.size w (w2.alloc (Obj.cells #[.int .i64 t.k, .int .i64 t.n, .string t.s, .slice xa xn xc, .slice ya yn yc] 31)) ∧ DOUT b t k er) :=
    ⟨heap_new _ _, RV.lift hba.size (fun q hq => hba.block q hq) (fun q hq => Nat.lt_of_lt_of_le hq hba.size) _ _ _ hrv, hb2.trans (hba.mono hb2.size), hout⟩
  clear hba hrv hout hb2
  by_cases he : er = 0
  · subst he
    obtain ⟨hbt, ⟨g1, g2, g3⟩, hlen⟩ := dout_txt H3.out.2.2.2
    obtain ⟨c0, c1, c2, c3, c4⟩ := H3.out.1.cells
    have HK : Hid (k = 0) := by
      rcases H3.out.2.2.2 with ⟨_, h, _⟩ | ⟨_, ⟨h, _⟩ | ⟨h, _⟩ | ⟨_, _, h⟩⟩
      · exact h
      · cases h
      · have := run_er h; omega
      · cases h
    have HX := Lib.hid (walk29 t (.slice xa xn xc) (.slice ya yn yc) (w2.alloc (Obj.cells #[.int .i64 t.k, .int .i64 t.n, .string t.s, .slice xa xn xc, .slice ya yn yc] 31)) (w2.alloc (Obj.cells #[.int .i64 t.k, .int .i64 t.n, .string t.s, .slice xa xn xc, .slice ya yn yc] 31)).heap.size 0 (.slice none 0 0) [] (dueS []) H3.out.2.1 g3 (vt_of_wk t _ g1) (tb_up (HR.out.2.on H3.out.2.2.1) H3.out.2.2.1.size)
      (by show 0 + _ ≤ _; rw [← hbt]; omega) (by show 0 + _ ≤ _; rw [← hbt]; omega) (by rw [← hbt]; omega) (World.ownsRow_nil _ _ _ _) (Nat.le_refl _))
    have HD := Lib.hid H3.out.2.2
    clear hbt g1 g2 g3 hlen H3
    go_wp2_with fail
    refine HX.out.mono ?_
    rintro e w4 ⟨lv, rfl, ho, hn⟩
    obtain ⟨la, lc, rfl⟩ := ownForm ho
    have HZ : Hid (w4.ownsRow (w2.alloc (Obj.cells #[.int .i64 t.k, .int .i64 t.n, .string t.s, .slice xa xn xc, .slice ya yn yc] 31)).heap.size 37 7 _ _ _ ∧ Below w.heap.size w w4) := ⟨ho, HD.out.1.trans ⟨hn.os, hn.tape, hn.output, hn.size, fun q hq => hn.block q (Nat.lt_of_lt_of_le hq HD.out.1.size) (fun e => by cases e)⟩⟩
    clear ho hn HX c0 c1 c2 c3 c4
    go_wp2
    go_ret3
    refine ⟨_, 0, 0, rfl, ⟨t, by have := HK.out; subst this; exact HD.out.2, .inr ⟨rfl, ?_⟩⟩, HZ.out.2⟩
    have := HZ.out.1
    rw [Nat.zero_add, List.nil_append] at this
    exact own_mono HD.out.1.size this
  · have he' : (er == 0) = false := beq_eq_false_iff_ne.2 he
    go_wp2
    go_ret3
    exact ⟨_, k, er, rfl, ⟨t, H3.out.2.2.2, .inl ⟨he, rfl⟩⟩, H3.out.2.2.1⟩
end Go.Proofs.YtdlnnnlmlaploabDoor
namespace Go.Proofs.YtdlnnnlmlaploabDoor
open Go.RowKit Go.Deep
def SL (t : T) (er : Int) : List Vi := if er = 0 then (walkT t 0 (dueS [])).map Sp.v else []
theorem SKA.rsp {b : List UInt8} {B : Nat} {w : World} {v : Value} {k : Nat} {er : Int} (h : SKA b B w v k er) : ∃ t, DOUT b t k er ∧ RSp w v (SL t er) ∧ (SL t er).length ≤ 140737488351232 := by
  obtain ⟨t, hd, h⟩ := h
  refine ⟨t, hd, ?_⟩
  rcases h with ⟨he, rfl⟩ | ⟨rfl, h⟩
  · unfold SL
    rw [if_neg he]
    exact ⟨RSp.nil w, Nat.zero_le _⟩
  · have e : SL t 0 = (walkT t 0 (dueS [])).map Sp.v := if_pos rfl
    obtain ⟨h1, h2, h3⟩ := dout_txt hd
    have hw := walk_len t 0 (dueS []) (vt_of_wk t _ h2.1)
    rw [← h1] at hw
    rw [e]
    exact ⟨RSp.of_own (by rw [List.length_map]; rfl) rfl h, by rw [List.length_map]; omega⟩

end Go.Proofs.YtdlnnnlmlaploabDoor
namespace Go.Proofs.YtdlnnnlmlaploabDoor
open Go.RowKit Go.Deep
/-! ### The reference's seek, Find and Whole -/
theorem dout_mk {b : List UInt8} {t : T} {k : Nat} (h : DOUT b t k 0) : ∃ y, (SL t 0)[0]? = some y := by
  obtain ⟨h1, _, _⟩ := dout_txt h
  cases t with
  | no =>
    have hb : b = [] := h1
    subst hb
    rcases h with ⟨_, _, _, n, hr, _⟩ | ⟨_, ⟨e, _⟩ | ⟨hr, _⟩ | ⟨_, _, e⟩⟩
    · have hr2 : Run [] (.go [] 0) (.bad 0 21) := Run.one rfl
      have := hr.unique hr2 trivial trivial
      cases this
    · cases e
    · have := run_er hr; omega
    · cases e
  | mk k n s ln l dn ky dv => exact ⟨_, rfl⟩
def nestI (k : Int) : Prop := k = 3 ∨ k = 4
/-- the path leads no further than d steps, to r; that is told by er -/
def Stuck (p : List (Int × ByteArray)) (L : List Vi) (er : Int) : Prop :=
  ∃ d r y n k, Led p L d r ∧ p[d]? = some (n, k) ∧ L[r]? = some y ∧ ((er = 31 ∧ ¬ nestI y.kd) ∨ (er = 30 ∧ nestI y.kd ∧ ∀ (j : Nat) (x : Vi), r < j → L[j]? = some x → ¬ stM y.kd r n k x))
theorem SL_len {b : List UInt8} {t : T} {k : Nat} (hd : DOUT b t k 0) : (SL t 0).length ≤ 1048576 := by
  obtain ⟨h1, h2, h3⟩ := dout_txt hd
  have hw := walk_len t 0 (dueS []) (vt_of_wk t _ h2.1)
  rw [← h1] at hw
  have e : SL t 0 = (walkT t 0 (dueS [])).map Sp.v := if_pos rfl
  rw [e, List.length_map]
  omega
def SEEK (b : List UInt8) (p : List (Int × ByteArray)) (w : World) (lv : Value) (r : Nat) (er : Int) : Prop :=
  ∃ t k e0, DOUT b t k e0 ∧ ((e0 ≠ 0 ∧ lv = .slice none 0 0 ∧ r = 0 ∧ er = e0) ∨ (e0 = 0 ∧ ((er = 0 ∧ RSp w lv (SL t 0) ∧ Led p (SL t 0) p.length r ∧ r < (SL t 0).length) ∨ (er ≠ 0 ∧ lv = .slice none 0 0 ∧ r = 0 ∧ Stuck p (SL t 0) er))))
set_option maxRecDepth 10000 in
set_option maxHeartbeats 2000000 in
theorem seek33 (v pv : Value) (b : List UInt8) (p : List (Int × ByteArray)) (w : World) (hr : RB w v b) (hl0 : b.length ≤ 140737488351232) (hT : TB w.heap.size w) (hP : PSA w.heap.size w pv p) (hp : p.length ≤ 140737488351232) :
    Calls Tryd.prog 33 #[v, pv] w fun e w' => ∃ lv r er, e = .returned (.tuple #[lv, .int .i64 (r : Nat), .int .i64 er]) ∧ SEEK b p w' lv r er ∧ Below w.heap.size w w' := by
  have HR := Lib.hid (And.intro hr (And.intro hT hP))
  obtain ⟨a, c, rfl, _⟩ := hr
  obtain ⟨pa, pc, rfl, _⟩ := hP
  clear hT
  go_enter Tryd.func33, Tryd.ntmps33

  go_wp2_with fail
  refine (skim15 _ b _ HR.out.1 hl0 HR.out.2.1).mono ?_
  rintro e w2 ⟨sv, k, er, rfl, hsk, hb2⟩
  obtain ⟨t, hd, hrs, hlen⟩ := hsk.rsp
  have HD := Lib.hid (And.intro hd hb2)
  by_cases he : er = 0
  · subst he
    obtain ⟨y, hy⟩ := dout_mk hd
    have hlen2 := SL_len hd
    have hpos : 0 < (SL t 0).length := (List.getElem?_eq_some_iff.1 hy).1
    have HI : Hid (RSp w2 sv (SL t 0) ∧ PSA w2.heap.size w2 (.slice pa p.length pc) p ∧ Below w.heap.size w w2 ∧ DOUT b t k 0) := ⟨hrs, HR.out.2.2.on hb2, hb2, hd⟩
    obtain ⟨sa, sc, rfl, _⟩ := hrs
    have HL := Lib.hid hlen2
    have HLP : Hid ((SL t 0).length = (SL t 0).length) := rfl
    clear hsk hb2 HR hd hlen hy HD
    go_wp2
    go_loopw [10, 11] (fun hv iv wr => ∃ d r : Nat, d ≤ p.length ∧ r < (SL t 0).length ∧ hv = .int .i64 r ∧ iv = .int .i64 d ∧ Hid (Led p (SL t 0) d r ∧ Below w.heap.size w wr ∧ RSp wr (.slice sa (SL t 0).length sc) (SL t 0) ∧ PSA wr.heap.size wr (.slice pa p.length pc) p)) (fun _ iv _ => p.length - (intOf iv).toNat)
    case atStart => exact ⟨0, 0, Nat.zero_le _, hpos, rfl, rfl, Lib.hid ⟨.root, HI.out.2.2.1, HI.out.1, HI.out.2.1⟩⟩
    case round =>
      obtain ⟨d, r, hdp, hrl, rfl, rfl, HJ⟩ := hrel
      by_cases hlt : d < p.length
      · obtain ⟨_, _, h3, h4⟩ := HJ.out
        obtain ⟨pa', pc', e', h4⟩ := h4
        cases e'
        rcases h4 with h0 | ⟨g, o, rfl, hg, hc⟩
        · rw [h0] at hlt; simp at hlt
        obtain ⟨⟨nm, ky⟩, hx⟩ : ∃ x, p[d]? = some x := ⟨_, List.getElem?_eq_getElem hlt⟩
        obtain ⟨x1, x2⟩ := hc d nm ky hx
        have HX := Lib.hid hx
        have d0 : (0 : Int) ≤ (d : Int) := by omega
        have d1 : (d : Int) < (p.length : Int) := by omega
        have hlt' : (d : Int) < (p.length : Int) := by omega
        clear h3 hc hg hx hpos
        go_wp2_with fail
        refine (step31 _ (SL t 0) wr r nm ky (by have := HL.out; omega) hrl HJ.out.2.2.1).mono ?_
        rintro e w3 ⟨r', er, rfl, ⟨y', hy', hst⟩, hb3⟩
        have HJ3 : Hid (Below w.heap.size w w3 ∧ RSp w3 (.slice sa (SL t 0).length sc) (SL t 0) ∧ PSA w3.heap.size w3 (.slice (some ⟨g, o, none⟩) p.length pc) p) := by
          obtain ⟨q1, q2, q3, q4⟩ := HJ.out
          exact ⟨q2.trans (hb3.mono q2.size), q3.keep hb3, q4.on hb3⟩
        have HY := Lib.hid hy'
        have HLD := Lib.hid HJ.out.1
        clear hb3 x1 x2 hy' HJ
        by_cases hz : er = 0
        · subst hz
          rcases hst with ⟨_, _, h31⟩ | ⟨hn, ⟨_, hr1, ⟨x, hx, hm⟩, hf⟩ | ⟨_, h30, _⟩⟩
          · cases h31
          · have hrl' : r' < (SL t 0).length := (List.getElem?_eq_some_iff.1 hx).1
            have HLD2 : Hid (Led p (SL t 0) (d + 1) r') := .next HLD.out HX.out HY.out hn hr1 hx hm hf
            clear hx hm hf hn
            go_wp2
            exact ⟨⟨d + 1, r', by omega, hrl', rfl, by go_num, Lib.hid ⟨HLD2.out, HJ3.out.1, HJ3.out.2.1, HJ3.out.2.2⟩⟩, by simp [intOf]; omega⟩
          · cases h30
        · have hz' : (er != 0) = true := by simpa using hz
          have HST : Hid (Stuck p (SL t 0) er) := by
            rcases hst with ⟨hn, _, h31⟩ | ⟨hn, ⟨h0, _⟩ | ⟨_, h30, hno⟩⟩
            · exact ⟨d, r, y', nm, ky, HLD.out, HX.out, HY.out, .inl ⟨h31, hn⟩⟩
            · exact absurd h0 hz
            · exact ⟨d, r, y', nm, ky, HLD.out, HX.out, HY.out, .inr ⟨h30, hn, hno⟩⟩
          clear hst
          go_wp2
          go_ret3
          exact ⟨_, 0, er, rfl, ⟨t, k, 0, HI.out.2.2.2, .inr ⟨rfl, .inr ⟨hz, rfl, rfl, HST.out⟩⟩⟩, HJ3.out.1⟩
      · go_wp2
        go_ret3
        obtain rfl : d = p.length := by omega
        exact ⟨_, r, 0, rfl, ⟨t, k, 0, HI.out.2.2.2, .inr ⟨rfl, .inl ⟨rfl, HJ.out.2.2.1, HJ.out.1, hrl⟩⟩⟩, HJ.out.2.1⟩
  · have he' : (er != 0) = true := by simpa using he
    clear hd hrs hlen
    go_wp2
    go_ret3
    exact ⟨_, 0, er, rfl, ⟨t, k, er, HD.out.1, .inl ⟨he, rfl, rfl, rfl⟩⟩, HD.out.2⟩
end Go.Proofs.YtdlnnnlmlaploabDoor
namespace Go.Proofs.YtdlnnnlmlaploabDoor
open Go.RowKit Go.Deep
def vz : Vi := ⟨0, 0, 0, 0, 0, 0, ByteArray.empty, 0, 0⟩
/-- what Find answers -/
def FND (b : List UInt8) (p : List (Int × ByteArray)) (x : Vi) (er : Int) : Prop :=
  ∃ t k e0, DOUT b t k e0 ∧ ((e0 ≠ 0 ∧ x = vz ∧ er = e0) ∨ (e0 = 0 ∧ ((er = 0 ∧ ∃ r, Led p (SL t 0) p.length r ∧ (SL t 0)[r]? = some x) ∨ (er ≠ 0 ∧ x = vz ∧ Stuck p (SL t 0) er))))
abbrev zero7 : Obj := Obj.cells #[.int .i64 0, .int .i64 0, .int .i64 0, .int .i64 0, .int .i64 0, .int .i64 0, .string { data := #[] }] 37
theorem info37s : (Tryd.prog.info? 37).map (·.size) = some 7 := by kernel_rfl
theorem results_cell37t {fn : Func} {p u : Tmp} (h : fn.results = #[.cell p 37, .tmp u]) (tmps : Array Value) (w : World) (g : Nat) (cs : Array Value)
    (hp : tmps.getD p undef = .pointer (some ⟨g, 0, none⟩)) (hg : w.heap[g]? = some (.cells cs 37 (0, 0))) (hs : cs.size = 7) : (results fn tmps).run Tryd.prog w = .ok (.tuple #[.agg cs, tmps.getD u undef]) w := by
  have hp' : tmps[p]?.getD undef = .pointer (some ⟨g, 0, none⟩) := by simpa using hp
  have hi : (Tryd.prog.info? 37).map (·.size) = some cs.size := by rw [hs]; exact info37s
  simp [results, h, hp', asAddr, run_loadVar_row w g 37 37 cs (0, 0) _ hg Tryd.underlying37 rfl hi]
theorem sp_one (v : Vi) : (Vi.sp v).toArray.all (·.oneCell') = true := by kernel_rfl
theorem sp_info (v : Vi) : (Tryd.prog.info? 37).map (·.size) = some (Vi.sp v).toArray.size := info37s
/-- the box of the answer is written, and read when the call ends -/
theorem ret7 {w w1 : World} {Rb : Nat} {cs : Array Value} (hb : Below Rb w w1) (hk : blk w1 Rb 37 cs) (x : Vi) : blk (w1.setRow Rb (Vi.sp x).toArray) Rb 37 (Vi.sp x).toArray ∧ Below Rb w (w1.setRow Rb (Vi.sp x).toArray) := by
  have y1 := besides_row w1 Rb (Vi.sp x).toArray
  exact ⟨blk_row hk _, ⟨y1.os.trans hb.os, y1.tape.trans hb.tape, y1.output.trans hb.output, Nat.le_trans hb.size y1.size, fun k hk2 => (y1.block k (Nat.lt_trans hk2 hk.lt) (by omega)).trans (hb.block k hk2)⟩⟩
set_option maxRecDepth 10000 in
set_option maxHeartbeats 2000000 in
theorem find16 (v pv : Value) (b : List UInt8) (p : List (Int × ByteArray)) (w : World) (hr : RB w v b) (hl0 : b.length ≤ 140737488351232) (hT : TB w.heap.size w) (hP : PSA w.heap.size w pv p) (hp : p.length ≤ 140737488351232) :
    Calls Tryd.prog 16 #[v, pv] w fun e w' => ∃ x er, e = .returned (.tuple #[.agg (Vi.sp x).toArray, .int .i64 er]) ∧ FND b p x er ∧ Below w.heap.size w w' := by
  have b0 : Below w.heap.size w (w.alloc zero7) := (Below.refl _ _).alloc (Nat.le_refl _) _
  have o0 : blk (w.alloc zero7) w.heap.size 37 #[.int .i64 0, .int .i64 0, .int .i64 0, .int .i64 0, .int .i64 0, .int .i64 0, .string { data := #[] }] := heap_new _ _
  have HC := Lib.hid (seek33 v pv b p (w.alloc zero7) (hr.keep b0) hl0 (tb_up (hT.on b0) b0.size) (hP.on b0) hp)
  have H0 := Lib.hid (And.intro b0 o0)
  obtain ⟨a, c, rfl, _⟩ := hr
  obtain ⟨pa, pc, rfl, _⟩ := hP
  clear hT b0 o0
  go_enter Tryd.func16, Tryd.ntmps16
  go_wp2_with fail
  refine HC.out.mono ?_
  rintro e w1 ⟨lv, r, er, rfl, hsk, hb1⟩
  have H1 : Hid (Below w.heap.size w w1 ∧ blk w1 w.heap.size 37 #[.int .i64 0, .int .i64 0, .int .i64 0, .int .i64 0, .int .i64 0, .int .i64 0, .string { data := #[] }]) := by
    obtain ⟨q1, q2⟩ := H0.out
    exact ⟨q1.trans (hb1.mono q1.size), q2.keep (hb1.block _ q2.lt)⟩
  have HS := Lib.hid hsk
  clear hb1 H0 HC
  generalize hRb : w.heap.size = Rb at *
  have HZ : Hid (Rb = w.heap.size) := hRb.symm
  clear hRb
  by_cases he : er = 0
  · subst he
    obtain ⟨t, k, e0, hd, h⟩ := hsk
    rcases h with ⟨hne, _, _, h⟩ | ⟨rfl, ⟨_, hrs, hled, hrl⟩ | ⟨hne, _⟩⟩
    · exact absurd h.symm hne
    · obtain ⟨x, hx⟩ : ∃ x, (SL t 0)[r]? = some x := ⟨_, List.getElem?_eq_getElem hrl⟩
      obtain ⟨sa, sc, rfl, h⟩ := hrs
      rcases h with h0 | ⟨g, rfl, hg, hc⟩
      · rw [h0] at hrl; simp at hrl
      obtain ⟨c0, c1, c2, c3, c4, c5, c6⟩ := hc r x hx
      have r0 : (0 : Int) ≤ (r : Int) := by omega
      have r1 : (r : Int) < ((SL t 0).length : Int) := by omega
      have HX : Hid (FND b p x 0) := ⟨t, k, 0, hd, .inr ⟨rfl, .inl ⟨rfl, r, hled, hx⟩⟩⟩
      clear hd hled hc hx HS hrl hg
      go_wp2_with (first | (refine wpList_store_row rfl 37 _ _ rfl Rb (Vi.sp x).toArray rfl rfl 37 _ H1.out.2 (sp_info x) rfl (sp_one x) ?_))
      go_wp2
      obtain ⟨y1, y2⟩ := ret7 H1.out.1 H1.out.2 x
      refine bodyPost_ret (v := .tuple #[.agg (Vi.sp x).toArray, .int .i64 0]) (results_cell37t Tryd.results16 _ _ Rb _ rfl y1 rfl) rfl ?_
      exact ⟨x, 0, rfl, HX.out, HZ.out ▸ y2⟩
    · exact absurd rfl hne
  · have he' : (er != 0) = true := by simpa using he
    obtain ⟨t, k, e0, hd, h⟩ := hsk
    have HX : Hid (FND b p vz er) := by
      rcases h with ⟨hne, _, _, h⟩ | ⟨rfl, ⟨h, _⟩ | ⟨hne, _, _, h⟩⟩
      · exact ⟨t, k, e0, hd, .inl ⟨hne, rfl, h⟩⟩
      · exact absurd h he
      · exact ⟨t, k, 0, hd, .inr ⟨rfl, .inr ⟨hne, rfl, h⟩⟩⟩
    clear hd h HS
    go_wp2_with (first | (refine wpList_store_row rfl 37 _ _ rfl Rb (Vi.sp vz).toArray rfl rfl 37 _ H1.out.2 (sp_info vz) rfl (sp_one vz) ?_))
    go_wp2
    obtain ⟨y1, y2⟩ := ret7 H1.out.1 H1.out.2 vz
    refine bodyPost_ret (v := .tuple #[.agg (Vi.sp vz).toArray, .int .i64 er]) (results_cell37t Tryd.results16 _ _ Rb _ rfl y1 rfl) rfl ?_
    exact ⟨vz, er, rfl, HX.out, HZ.out ▸ y2⟩
end Go.Proofs.YtdlnnnlmlaploabDoor
namespace Go.Proofs.YtdlnnnlmlaploabDoor
open Go.RowKit Go.Deep
/-! ### Where spans lie; what Find answers is one thing: plain -/
theorem kids_in {g : Nat → Nat → List Sp} {Q : Sp → Prop} : ∀ {n : Nat}, (∀ i m, i < n → ∀ s ∈ g i m, Q s) → ∀ s ∈ kids g n, Q s
  | 0, _, s, h => by cases h
  | n + 1, hq, s, h => by
    have h' : s ∈ kids g n ++ g n (kids g n).length := h
    rcases List.mem_append.1 h' with h | h
    · exact kids_in (fun i m hi => hq i m (by omega)) s h
    · exact hq n _ (by omega) s h
theorem catN_lt {c : Nat → List UInt8} : ∀ {n i : Nat}, i < n → (catN c i).length + (c i).length ≤ (catN c n).length
  | 0, _, h => by omega
  | n + 1, i, h => by
    have e : (catN c (n + 1)).length = (catN c n).length + (c n).length := by show (catN c n ++ c n).length = _; rw [List.length_append]
    rw [e]
    by_cases hi : i = n
    · subst hi; exact Nat.le_refl _
    · have := catN_lt (c := c) (n := n) (i := i) (by omega)
      omega
theorem walk_in : ∀ (t : T) (here : Nat) (sp : Sp), VT t → ∀ s ∈ walkT t here sp, sp.fr ≤ s.fr ∧ s.fr < s.to ∧ s.to ≤ sp.fr + (txt t).length := by
  intro t
  induction t with
  | no => intro _ _ _ s h; cases h
  | mk k n s ln l dn ky dv il id =>
    intro here sp h x hx
    have hg := txt_ge h
    unfold walkT at hx
    rcases List.mem_cons.1 hx with rfl | hx
    · exact ⟨Nat.le_refl _, by show sp.fr < sp.fr + _; omega, Nat.le_refl _⟩
    · rcases List.mem_append.1 hx with hx | hx
      · refine kids_in (Q := fun x => sp.fr ≤ x.fr ∧ x.fr < x.to ∧ x.to ≤ sp.fr + (txt (.mk k n s ln l dn ky dv)).length) (fun i m hi y hy => ?_) x hx
        obtain ⟨h1, h2, h3⟩ := il i _ _ (h.2.1 i hi) y hy
        have h4 := catN_lt (c := fun i => txt (l i)) hi
        dsimp only at h1 h3 h4
        omega
      · refine kids_in (Q := fun x => sp.fr ≤ x.fr ∧ x.fr < x.to ∧ x.to ≤ sp.fr + (txt (.mk k n s ln l dn ky dv)).length) (fun i m hi y hy => ?_) x hx
        obtain ⟨h1, h2, h3⟩ := id i _ _ (h.2.2 i hi).2 y hy
        have h4 := catN_lt (c := fun i => wtx (ky i) ++ txt (dv i)) hi
        dsimp only at h1 h3 h4
        rw [List.length_append] at h4
        omega
/-- a span of the whole lies in the text -/
theorem SL_in {b : List UInt8} {t : T} {k : Nat} (hd : DOUT b t k 0) {r : Nat} {x : Vi} (hx : (SL t 0)[r]? = some x) : ∃ F U : Nat, x.fr = (F : Int) ∧ x.to = (U : Int) ∧ F < U ∧ U ≤ b.length := by
  obtain ⟨h1, h2, h3⟩ := dout_txt hd
  have e : SL t 0 = (walkT t 0 (dueS [])).map Sp.v := if_pos rfl
  rw [e, List.getElem?_map, Option.map_eq_some_iff] at hx
  obtain ⟨s, hs, rfl⟩ := hx
  obtain ⟨_, g2, g3⟩ := walk_in t 0 (dueS []) (vt_of_wk t _ h2.1) s (List.mem_of_getElem? hs)
  refine ⟨s.fr, s.to, rfl, rfl, g2, ?_⟩
  rw [← h1] at g3
  have : (dueS []).fr = 0 := rfl
  omega
theorem Led.unique {p : List (Int × ByteArray)} {L : List Vi} {d r : Nat} (h : Led p L d r) : ∀ {r' : Nat}, Led p L d r' → r = r' := by
  induction h with
  | root => intro r' h'; cases h'; rfl
  | @next d r r1 n k y x h0 h1 h2 h3 h4 h5 h6 h7 ih =>
    intro r' h'
    cases h' with
    | @next _ r2 _ n' k' y' x' g0 g1 g2 g3 g4 g5 g6 g7 =>
      obtain rfl := ih g0
      obtain ⟨rfl, rfl⟩ := Prod.mk.inj (Option.some.inj (h1.symm.trans g1))
      obtain rfl := Option.some.inj (h2.symm.trans g2)
      rcases Nat.lt_trichotomy r1 r' with g | g | g
      · exact absurd h6 (g7 r1 x h4 g h5)
      · exact g
      · exact absurd g6 (h7 r' x' g4 g g5)
theorem Led.down {p : List (Int × ByteArray)} {L : List Vi} {d r : Nat} (h : Led p L d r) : ∀ {d' : Nat}, d' ≤ d → ∃ r', Led p L d' r' := by
  induction h with
  | root => intro d' hd; obtain rfl : d' = 0 := by omega
            exact ⟨0, .root⟩
  | @next d r r1 n k y x h0 h1 h2 h3 h4 h5 h6 h7 ih =>
    intro d' hd
    by_cases e : d' = d + 1
    · subst e; exact ⟨r1, .next h0 h1 h2 h3 h4 h5 h6 h7⟩
    · exact ih (by omega)
/-- from where the path is stuck it leads nowhere -/
theorem stuck_no {p : List (Int × ByteArray)} {L : List Vi} {er : Int} {d r : Nat} {y : Vi} {n : Int} {k : ByteArray} (h0 : Led p L d r) (h1 : p[d]? = some (n, k)) (h2 : L[r]? = some y) (h : (er = 31 ∧ ¬ nestI y.kd) ∨ (er = 30 ∧ nestI y.kd ∧ ∀ (j : Nat) (x : Vi), r < j → L[j]? = some x → ¬ stM y.kd r n k x)) {d' r' : Nat} (hl : Led p L d' r') : d' ≤ d := by
  rcases Nat.lt_or_ge d d' with g | g
  · obtain ⟨r2, hl2⟩ := hl.down (d' := d + 1) g
    cases hl2 with
    | next g0 g1 g2 g3 g4 g5 g6 g7 =>
      obtain rfl := h0.unique g0
      obtain ⟨rfl, rfl⟩ := Prod.mk.inj (Option.some.inj (h1.symm.trans g1))
      obtain rfl := Option.some.inj (h2.symm.trans g2)
      rcases h with ⟨_, h⟩ | ⟨_, _, h⟩
      · exact absurd g3 h
      · exact absurd g6 (h _ _ g4 g5)
  · exact g
theorem Stuck.unique {p : List (Int × ByteArray)} {L : List Vi} {er er' : Int} (h : Stuck p L er) (h' : Stuck p L er') : er = er' := by
  obtain ⟨d, r, y, n, k, h0, h1, h2, h3⟩ := h
  obtain ⟨d', r', y', n', k', g0, g1, g2, g3⟩ := h'
  have e1 := stuck_no h0 h1 h2 h3 g0
  have e2 := stuck_no g0 g1 g2 g3 h0
  obtain rfl : d = d' := by omega
  obtain rfl := h0.unique g0
  obtain rfl := Option.some.inj (h2.symm.trans g2)
  rcases h3 with ⟨rfl, h3⟩ | ⟨rfl, h3, _⟩
  · rcases g3 with ⟨rfl, _⟩ | ⟨_, g3, _⟩
    · rfl
    · exact absurd g3 h3
  · rcases g3 with ⟨_, g3⟩ | ⟨rfl, _⟩
    · exact absurd h3 g3
    · rfl
theorem Stuck.led {p : List (Int × ByteArray)} {L : List Vi} {er : Int} (h : Stuck p L er) {r : Nat} (hl : Led p L p.length r) : False := by
  obtain ⟨d, r', y, n, k, h0, h1, h2, h3⟩ := h
  have e1 := stuck_no h0 h1 h2 h3 hl
  have e2 := (List.getElem?_eq_some_iff.1 h1).1
  omega
theorem FND.unique {b : List UInt8} {p : List (Int × ByteArray)} {x x' : Vi} {er er' : Int} (h : FND b p x er) (h' : FND b p x' er') : x = x' ∧ er = er' := by
  obtain ⟨t, k, e0, hd, h⟩ := h
  obtain ⟨t', k', e0', hd', h'⟩ := h'
  obtain ⟨rfl, rfl, rfl⟩ := DOUT.unique hd hd'
  rcases h with ⟨he, rfl, rfl⟩ | ⟨rfl, h⟩
  · rcases h' with ⟨_, rfl, rfl⟩ | ⟨e, _⟩
    · exact ⟨rfl, rfl⟩
    · exact absurd e he
  · rcases h' with ⟨e, _⟩ | ⟨_, h'⟩
    · exact absurd rfl e
    · rcases h with ⟨rfl, r, hl, hx⟩ | ⟨hne, rfl, hs⟩
      · rcases h' with ⟨rfl, r', hl', hx'⟩ | ⟨_, _, hs'⟩
        · obtain rfl := hl.unique hl'
          exact ⟨Option.some.inj (hx.symm.trans hx'), rfl⟩
        · exact (hs'.led hl).elim
      · rcases h' with ⟨_, r', hl', hx'⟩ | ⟨_, rfl, hs'⟩
        · exact (hs.led hl').elim
        · exact ⟨rfl, hs.unique hs'⟩
/-- where follow ends, in the reference's words -/
theorem follow_plain {b : List UInt8} {p : List (Int × ByteArray)} {h : List Vi} {pp e0 : Int} (H : Fin b (goF p) h pp e0) {t : T} {k : Nat} (hd : DOUT b t k 0) :
    ((fwF p h).1.dp = (p.length : Int) ∧ ∃ x, FND b p x 0 ∧ Eq6 (fwF p h).1 x ∧ x.to = (fwF p h).1.to) ∨ ((fwF p h).1.dp ≠ (p.length : Int) ∧ FND b p vz (if nestB (fwF p h).1 = true then 30 else 31)) := by
  have hlim : b.length ≤ 1048576 := (dout_txt hd).2.2
  have eSL : SL t 0 = (walkT t 0 (dueS [])).map Sp.v := if_pos rfl
  obtain ⟨d, r, x, g⟩ := H.led hlim hd
  rw [← eSL] at g
  have hle := g.led.le
  by_cases e : d = p.length
  · subst e
    exact .inl ⟨g.dp, x, ⟨t, k, 0, hd, .inr ⟨rfl, .inl ⟨rfl, r, g.led, g.at'⟩⟩⟩, g.eq, g.to⟩
  · obtain ⟨⟨n, ky⟩, hpd⟩ : ∃ z, p[d]? = some z := ⟨_, List.getElem?_eq_getElem (by omega)⟩
    have hne : (fwF p h).1.dp ≠ (p.length : Int) := by rw [g.dp]; omega
    refine .inr ⟨hne, t, k, 0, hd, .inr ⟨rfl, .inr ⟨by split <;> decide, rfl, d, r, x, n, ky, g.led, hpd, g.at', ?_⟩⟩⟩
    have hk : x.kd = (fwF p h).1.kd := g.eq.kd
    by_cases hn : (fwF p h).1.kd = 3 ∨ (fwF p h).1.kd = 4
    · have hb : nestB (fwF p h).1 = true := by unfold nestB; rcases hn with e | e <;> rw [e] <;> rfl
      rw [if_pos hb]
      refine .inr ⟨rfl, by rw [hk]; exact hn, fun j z hj hz => ?_⟩
      rw [hk]
      exact g.no hn n ky hpd j z hj hz
    · have hb : ¬ nestB (fwF p h).1 = true := by
        unfold nestB
        simpa using hn
      rw [if_neg hb]
      exact .inl ⟨rfl, by rw [hk]; exact hn⟩
end Go.Proofs.YtdlnnnlmlaploabDoor
namespace Go.Proofs.YtdlnnnlmlaploabDoor
open Go.RowKit Go.Deep
/-- the bytes of a span -/
def cutB (b : List UInt8) (x : Vi) : List UInt8 := (b.drop x.fr.toNat).take (x.to.toNat - x.fr.toNat)
/-- what Whole answers -/
def WHO (b : List UInt8) (p : List (Int × ByteArray)) (B : Nat) (w : World) (v : Value) (er : Int) : Prop :=
  ∃ x, FND b p x er ∧ ((er ≠ 0 ∧ v = .slice none 0 0) ∨ (er = 0 ∧ OW B w v (cutB b x)))
theorem ow_low {B' B : Nat} {w : World} {v : Value} {l : List UInt8} (hB : B' ≤ B) (h : OW B w v l) : OW B' w v l := by
  obtain ⟨h1, h⟩ := h
  refine ⟨h1, ?_⟩
  rcases h with h | ⟨g, cap, cur, e, h2, h3⟩
  · exact .inl h
  · exact .inr ⟨g, cap, cur, e, Nat.le_trans hB h2, h3⟩
theorem FND.inn {b : List UInt8} {p : List (Int × ByteArray)} {x : Vi} (h : FND b p x 0) : (∃ F U : Nat, x.fr = (F : Int) ∧ x.to = (U : Int) ∧ F < U ∧ U ≤ b.length) ∧ b.length ≤ 1048576 := by
  obtain ⟨t, k, e0, hd, h⟩ := h
  rcases h with ⟨he, _, e⟩ | ⟨rfl, ⟨_, r, _, hx⟩ | ⟨hne, _⟩⟩
  · exact absurd e.symm he
  · exact ⟨SL_in hd hx, (dout_txt hd).2.2⟩
  · exact absurd rfl hne
set_option maxRecDepth 10000 in
set_option maxHeartbeats 2000000 in
theorem whole18 (v pv : Value) (b : List UInt8) (p : List (Int × ByteArray)) (w : World) (hr : RB w v b) (hl0 : b.length ≤ 140737488351232) (hT : TB w.heap.size w) (hP : PSA w.heap.size w pv p) (hp : p.length ≤ 140737488351232) :
    Calls Tryd.prog 18 #[v, pv] w fun e w' => ∃ v er, e = .returned (.tuple #[v, .int .i64 er]) ∧ WHO b p w.heap.size w' v er ∧ Below w.heap.size w w' := by
  have HC := Lib.hid (find16 v pv b p w hr hl0 hT hP hp)
  have HR := Lib.hid hr
  obtain ⟨a, c, rfl, _⟩ := hr
  obtain ⟨pa, pc, rfl, _⟩ := hP
  clear hT
  go_enter Tryd.func18, Tryd.ntmps18
  go_wp2_with fail
  refine HC.out.mono ?_
  rintro e w1 ⟨x, er, rfl, hf, hb1⟩
  have HF := Lib.hid hf
  have HB := Lib.hid hb1
  by_cases he : er = 0
  · subst he
    obtain ⟨⟨F, U, hF, hU, hFU, hUb⟩, hlim⟩ := hf.inn
    obtain ⟨kd, fr, to, dp, up, nt, ky, pl, fi⟩ := x
    obtain rfl : fr = (F : Int) := hF
    obtain rfl : to = (U : Int) := hU
    have b1 : Below w.heap.size w (w1.alloc (Obj.cells #[.int .i64 kd, .int .i64 F, .int .i64 U, .int .i64 dp, .int .i64 up, .int .i64 nt, .string ky] 37)) := hb1.alloc hb1.size _
    have HP := Lib.hid (part34 (.slice a b.length c) b (w1.alloc (Obj.cells #[.int .i64 kd, .int .i64 F, .int .i64 U, .int .i64 dp, .int .i64 up, .int .i64 nt, .string ky] 37)) F U (HR.out.keep b1) (by omega) hUb hlim)
    have HB1 := Lib.hid b1
    clear hb1 hf b1 HC
    have eSP : (Vi.sp (⟨kd, F, U, dp, up, nt, ky, pl, fi⟩ : Vi)).toArray = #[.int .i64 kd, .int .i64 F, .int .i64 U, .int .i64 dp, .int .i64 up, .int .i64 nt, .string ky] := rfl
    rw [eSP]
    clear eSP
    go_wp2_with fail
    refine HP.out.mono ?_
    rintro e w2 ⟨v2, rfl, ho, hb2⟩
    have HB2 : Hid (Below w.heap.size w w2) := HB1.out.trans (hb2.mono HB1.out.size)
    have HO : Hid (OW w.heap.size w2 v2 ((b.drop F).take (U - F))) := ow_low HB1.out.size ho
    clear ho hb2 HP HB1
    go_wp2
    go_ret2
    exact ⟨v2, 0, rfl, ⟨_, HF.out, .inr ⟨rfl, HO.out⟩⟩, HB2.out⟩
  · have he' : (er != 0) = true := by simpa using he
    obtain ⟨kd, fr, to, dp, up, nt, ky, pl, fi⟩ := x
    have eSP : (Vi.sp (⟨kd, fr, to, dp, up, nt, ky, pl, fi⟩ : Vi)).toArray = #[.int .i64 kd, .int .i64 fr, .int .i64 to, .int .i64 dp, .int .i64 up, .int .i64 nt, .string ky] := rfl
    rw [eSP]
    clear hf HC eSP
    go_wp2
    go_ret2
    exact ⟨_, er, rfl, ⟨_, HF.out, .inl ⟨he, rfl⟩⟩, HB.out.alloc HB.out.size _⟩
theorem rb_cut {w : World} {b : List UInt8} {g o c F U : Nat} (hcc : b.length ≤ c) (h1 : F < U) (h2 : U ≤ b.length) (hg : g < w.heap.size) (hc : ∀ i, i < b.length → w.cell? ⟨g, o + i, none⟩ = some (.int .u8 ((byt b i).toNat : Int))) : RB w (.slice (some ⟨g, o + F, none⟩) (U - F) (c - F)) ((b.drop F).take (U - F)) := by
  have hl : ((b.drop F).take (U - F)).length = U - F := by rw [List.length_take, List.length_drop]; omega
  refine ⟨_, c - F, by rw [hl], by omega, .inr ⟨g, o + F, rfl, hg, fun i hi => ?_⟩⟩
  rw [hl] at hi
  rw [Nat.add_assoc, hc (F + i) (by omega)]
  have e : byt ((b.drop F).take (U - F)) i = byt b (F + i) := by
    unfold byt
    simp [List.getD, List.getElem?_drop, hi]
  rw [e]
set_option maxRecDepth 10000 in
set_option maxHeartbeats 2000000 in
theorem whole10 (a : Option Addr) (c : Nat) (b : List UInt8) (w : World) (pa : Option Addr) (pc : Nat) (p : List (Int × ByteArray)) (hr : RB w (.slice a b.length c) b) (hev : EVw w) (hP : PSA w.heap.size w (.slice pa p.length pc) p) (hp : p.length ≤ 140737488351232) :
    Calls Tryd.prog 10 #[.slice a b.length c, .slice pa p.length pc] w fun e w' => ∃ v er, e = .returned (.tuple #[v, .int .i64 er]) ∧ WHO b p w.heap.size w' v er ∧ Below w.heap.size w w' := by
  have HC := Lib.hid (find19 a c b w pa p.length pc p hr hev hP hp)
  have HR := Lib.hid hr
  clear hr hev hP
  go_enter Tryd.func10, Tryd.ntmps10
  go_wp2_with fail
  refine HC.out.mono ?_
  rintro e w1 ⟨t, k, er, hd, hb1, hcase⟩
  have HB := Lib.hid hb1
  clear HC
  rcases hcase with ⟨he, rfl⟩ | ⟨rfl, h, pp, e0, hF, rfl⟩
  · have he' : (er != 0) = true := by simpa using he
    have HF : Hid (FND b p vz er) := ⟨t, k, er, hd, .inl ⟨he, rfl, rfl⟩⟩
    clear hd hb1 HR
    go_wp2
    go_ret2
    exact ⟨_, er, rfl, ⟨vz, HF.out, .inl ⟨he, rfl⟩⟩, HB.out.alloc HB.out.size _⟩
  · have hpl := follow_plain hF hd
    obtain ⟨⟨qkd, qfr, qto, qdp, qup, qnt, qky, qpl, qfi⟩, hq⟩ : ∃ q, (fwF p h).1 = q := ⟨_, rfl⟩
    rw [hq] at hpl ⊢
    rcases hpl with ⟨hdp, x, hf, heq, hto⟩ | ⟨hdp, hf⟩
    · rw [if_pos hdp]
      obtain ⟨⟨F, U, hF', hU, hFU, hUb⟩, hlim⟩ := hf.inn
      have q1 : qfr = (F : Int) := heq.fr.symm.trans hF'
      have q2 : qto = (U : Int) := hto.symm.trans hU
      subst q1 q2
      have HF : Hid (FND b p x 0) := hf
      have HX : Hid (cutB b x = (b.drop F).take (U - F)) := by show cutB b x = _; unfold cutB; rw [hF', hU]; rfl
      have b1 : Below w.heap.size w (w1.alloc (Obj.cells #[.int .i64 qkd, .int .i64 F, .int .i64 U, .int .i64 qdp, .int .i64 qup, .int .i64 qnt, .string qky, .int .i64 qpl, .int .i64 qfi] 60)) := hb1.alloc hb1.size _
      obtain ⟨a', c', e', hcc, hcell⟩ := HR.out.keep b1
      cases e'
      rcases hcell with h0 | ⟨g, o, rfl, hg, hc⟩
      · rw [h0] at hUb; simp at hUb; omega
      have hRB : RB (w1.alloc (Obj.cells #[.int .i64 qkd, .int .i64 F, .int .i64 U, .int .i64 qdp, .int .i64 qup, .int .i64 qnt, .string qky, .int .i64 qpl, .int .i64 qfi] 60)) (.slice (some ⟨g, o + F, none⟩) (U - F) (c - F)) ((b.drop F).take (U - F)) := rb_cut hcc hFU hUb hg hc
      have HCL := Lib.hid (clone32 ⟨g, o + F, none⟩ (U - F) (c - F) ((b.drop F).take (U - F)) _ hRB (by rw [List.length_take, List.length_drop]; omega))
      have HB1 := Lib.hid b1
      subst hdp
      have f0 : (0 : Int) ≤ (F : Int) := by omega
      have f1 : (F : Int) ≤ (U : Int) := by omega
      have f2 : (U : Int) ≤ (c : Int) := by omega
      have f3 : F ≤ U := by omega
      have f4 : U ≤ c := by omega
      have f5 : F < c := by omega
      have f6 : F ≠ c := by omega
      have f7 : ¬ c - F = 0 := by omega
      clear hd hb1 hf hF hq b1 hRB hc hg heq hto hcc hUb hFU hlim hF' hU HR
      go_wp2_with fail
      refine HCL.out.mono ?_
      rintro e w2 ⟨v2, rfl, ho, hb2⟩
      have HB2 : Hid (Below w.heap.size w w2) := HB1.out.trans (hb2.mono HB1.out.size)
      have HO : Hid (OW w.heap.size w2 v2 (cutB b x)) := by rw [HX.out]; exact ow_low HB1.out.size ho
      clear ho hb2 HCL HB1
      go_wp2
      go_ret2
      exact ⟨v2, 0, rfl, ⟨x, HF.out, .inr ⟨rfl, HO.out⟩⟩, HB2.out⟩
    · rw [if_neg hdp]
      obtain ⟨E, hE⟩ : ∃ E, (if nestB (⟨qkd, qfr, qto, qdp, qup, qnt, qky, qpl, qfi⟩ : Vi) = true then (30 : Int) else 31) = E := ⟨_, rfl⟩
      have hE0 : E ≠ 0 := by rw [← hE]; split <;> decide
      rw [hE] at hf ⊢
      have hE' : (E != 0) = true := by simpa using hE0
      have HF := Lib.hid hf
      clear hd hb1 HR hf hE hF hq hdp
      go_wp2
      go_ret2
      exact ⟨_, E, rfl, ⟨vz, HF.out, .inl ⟨hE0, rfl⟩⟩, HB.out.alloc HB.out.size _⟩
end Go.Proofs.YtdlnnnlmlaploabDoor
namespace Go.Proofs.YtdlnnnlmlaploabDoor
open Go.RowKit Go.Deep
set_option maxRecDepth 10000 in
set_option maxHeartbeats 2000000 in
theorem find12 (a : Option Addr) (c : Nat) (b : List UInt8) (w : World) (pa : Option Addr) (pc : Nat) (p : List (Int × ByteArray)) (hr : RB w (.slice a b.length c) b) (hev : EVw w) (hP : PSA w.heap.size w (.slice pa p.length pc) p) (hp : p.length ≤ 140737488351232) :
    Calls Tryd.prog 12 #[.slice a b.length c, .slice pa p.length pc] w fun e w' => ∃ x er, e = .returned (.tuple #[.agg (Vi.sp x).toArray, .int .i64 er]) ∧ FND b p x er ∧ Below w.heap.size w w' := by
  have b0 : Below w.heap.size w (w.alloc zero7) := (Below.refl _ _).alloc (Nat.le_refl _) _
  have o0 : blk (w.alloc zero7) w.heap.size 37 #[.int .i64 0, .int .i64 0, .int .i64 0, .int .i64 0, .int .i64 0, .int .i64 0, .string { data := #[] }] := heap_new _ _
  have HC := Lib.hid (find19 a c b (w.alloc zero7) pa p.length pc p (hr.keep b0) (hev.keep b0) (hP.on b0) hp)
  have H0 := Lib.hid (And.intro b0 o0)
  clear hr hev hP b0 o0
  go_enter Tryd.func12, Tryd.ntmps12
  go_wp2_with fail
  refine HC.out.mono ?_
  rintro e w1 ⟨t, k, er, hd, hb1, hcase⟩
  have H1 : Hid (Below w.heap.size w w1 ∧ blk w1 w.heap.size 37 #[.int .i64 0, .int .i64 0, .int .i64 0, .int .i64 0, .int .i64 0, .int .i64 0, .string { data := #[] }]) := by
    obtain ⟨q1, q2⟩ := H0.out
    exact ⟨q1.trans (hb1.mono q1.size), q2.keep (hb1.block _ q2.lt)⟩
  clear hb1 H0 HC
  generalize hRb : w.heap.size = Rb at *
  have HZ : Hid (Rb = w.heap.size) := hRb.symm
  clear hRb
  have key : ∀ (q : Vi), Hid (Below Rb w (w1.alloc (Obj.cells (Vi.cs q) 60)) ∧ blk (w1.alloc (Obj.cells (Vi.cs q) 60)) Rb 37 #[.int .i64 0, .int .i64 0, .int .i64 0, .int .i64 0, .int .i64 0, .int .i64 0, .string { data := #[] }]) := fun q =>
    ⟨H1.out.1.alloc (Nat.le_of_lt H1.out.2.lt) _, H1.out.2.keep (((Below.refl w1.heap.size w1).alloc (Nat.le_refl _) _).block _ H1.out.2.lt)⟩
  rcases hcase with ⟨he, rfl⟩ | ⟨rfl, h, pp, e0, hF, rfl⟩
  · have he' : (er != 0) = true := by simpa using he
    have HF : Hid (FND b p vz er) := ⟨t, k, er, hd, .inl ⟨he, rfl, rfl⟩⟩
    have K := key ⟨0, 0, 0, 0, 0, 0, ByteArray.empty, 0, 0⟩
    clear hd key
    go_wp2_with (first | (refine wpList_store_row rfl 37 _ _ rfl Rb (Vi.sp vz).toArray rfl rfl 37 _ K.out.2 (sp_info vz) rfl (sp_one vz) ?_))
    go_wp2
    obtain ⟨y1, y2⟩ := ret7 K.out.1 K.out.2 vz
    refine bodyPost_ret (v := .tuple #[.agg (Vi.sp vz).toArray, .int .i64 er]) (results_cell37t Tryd.results12 _ _ Rb _ rfl y1 rfl) rfl ?_
    exact ⟨vz, er, rfl, HF.out, HZ.out ▸ y2⟩
  · have hpl := follow_plain hF hd
    obtain ⟨⟨qkd, qfr, qto, qdp, qup, qnt, qky, qpl, qfi⟩, hq⟩ : ∃ q, (fwF p h).1 = q := ⟨_, rfl⟩
    rw [hq] at hpl ⊢
    have K := key ⟨qkd, qfr, qto, qdp, qup, qnt, qky, qpl, qfi⟩
    rcases hpl with ⟨hdp, x, hf, heq, hto⟩ | ⟨hdp, hf⟩
    · rw [if_pos hdp]
      have HF : Hid (FND b p x 0 ∧ (Vi.sp x).toArray = (Vi.sp ⟨qkd, qfr, qto, qdp, qup, qnt, qky, qpl, qfi⟩).toArray) := by
        refine ⟨hf, ?_⟩
        obtain ⟨xk, xf, xt, xd, xu, xn, xky, xp, xfi⟩ := x
        obtain ⟨e1, e2, e3, e4, e5, e6⟩ := heq
        dsimp only at e1 e2 e3 e4 e5 e6 hto
        subst e1 e2 e3 e4 e5 e6 hto
        rfl
      clear hd key hf heq hto hF hq hdp
      go_wp2_with (first | (refine wpList_store_row rfl 37 _ _ rfl Rb (Vi.sp ⟨qkd, qfr, qto, qdp, qup, qnt, qky, qpl, qfi⟩).toArray rfl rfl 37 _ K.out.2 (sp_info _) rfl (sp_one _) ?_))
      go_wp2
      obtain ⟨y1, y2⟩ := ret7 K.out.1 K.out.2 ⟨qkd, qfr, qto, qdp, qup, qnt, qky, qpl, qfi⟩
      refine bodyPost_ret (v := .tuple #[.agg (Vi.sp ⟨qkd, qfr, qto, qdp, qup, qnt, qky, qpl, qfi⟩).toArray, .int .i64 0]) (results_cell37t Tryd.results12 _ _ Rb _ rfl y1 rfl) rfl ?_
      exact ⟨x, 0, by rw [HF.out.2], HF.out.1, HZ.out ▸ y2⟩
    · rw [if_neg hdp]
      obtain ⟨E, hE⟩ : ∃ E, (if nestB (⟨qkd, qfr, qto, qdp, qup, qnt, qky, qpl, qfi⟩ : Vi) = true then (30 : Int) else 31) = E := ⟨_, rfl⟩
      have hE0 : E ≠ 0 := by rw [← hE]; split <;> decide
      rw [hE] at hf ⊢
      have hE' : (E != 0) = true := by simpa using hE0
      have HF := Lib.hid hf
      clear hd hf hE hF hq hdp key
      go_wp2_with (first | (refine wpList_store_row rfl 37 _ _ rfl Rb (Vi.sp vz).toArray rfl rfl 37 _ K.out.2 (sp_info vz) rfl (sp_one vz) ?_))
      go_wp2
      obtain ⟨y1, y2⟩ := ret7 K.out.1 K.out.2 vz
      refine bodyPost_ret (v := .tuple #[.agg (Vi.sp vz).toArray, .int .i64 E]) (results_cell37t Tryd.results12 _ _ Rb _ rfl y1 rfl) rfl ?_
      exact ⟨vz, E, rfl, HF.out, HZ.out ▸ y2⟩
end Go.Proofs.YtdlnnnlmlaploabDoor
namespace Go.Proofs.YtdlnnnlmlaploabDoor
open Go.RowKit Go.Deep
theorem WHO.rb {b : List UInt8} {p : List (Int × ByteArray)} {B B' : Nat} {w w' : World} {v v' : Value} {er er' : Int} (h : WHO b p B w v er) (h' : WHO b p B' w' v' er') : er = er' ∧ ∃ l, RB w v l ∧ RB w' v' l ∧ l.length ≤ 1048576 := by
  obtain ⟨x, hf, h⟩ := h
  obtain ⟨x', hf', h'⟩ := h'
  obtain ⟨rfl, rfl⟩ := hf.unique hf'
  refine ⟨rfl, ?_⟩
  rcases h with ⟨he, rfl⟩ | ⟨rfl, ho⟩
  · rcases h' with ⟨_, rfl⟩ | ⟨e, _⟩
    · exact ⟨[], ⟨none, 0, rfl, Nat.le_refl _, .inl rfl⟩, ⟨none, 0, rfl, Nat.le_refl _, .inl rfl⟩, by simp⟩
    · exact absurd e he
  · rcases h' with ⟨e, _⟩ | ⟨_, ho'⟩
    · exact absurd rfl e
    · refine ⟨cutB b x, ho.rb, ho'.rb, ?_⟩
      have := hf.inn.2
      unfold cutB
      rw [List.length_take, List.length_drop]
      omega
/-- what the law's calls need -/
structure HLaw (w : World) (W : World) (a : Option Addr) (c : Nat) (a1 : Option Addr) (c1 : Nat) (b : List UInt8) (pa : Option Addr) (pc : Nat) (pa1 : Option Addr) (pc1 : Nat) (p : List (Int × ByteArray)) : Prop where
  rb : RB W (.slice a b.length c) b
  rc : RB W (.slice a1 b.length c1) b
  pp : PSA W.heap.size W (.slice pa p.length pc) p
  pw : PSA W.heap.size W (.slice pa1 p.length pc1) p
  ev : EVw W
  tb : TB W.heap.size W
  bel : Below w.heap.size w W
theorem HLaw.on {w W W' : World} {a : Option Addr} {c : Nat} {a1 : Option Addr} {c1 : Nat} {b : List UInt8} {pa : Option Addr} {pc : Nat} {pa1 : Option Addr} {pc1 : Nat} {p : List (Int × ByteArray)} (h : HLaw w W a c a1 c1 b pa pc pa1 pc1 p) (hb : Below W.heap.size W W') : HLaw w W' a c a1 c1 b pa pc pa1 pc1 p :=
  ⟨h.rb.keep hb, h.rc.keep hb, h.pp.on hb, h.pw.on hb, h.ev.keep hb, tb_up (h.tb.on hb) hb.size, h.bel.trans (hb.mono h.bel.size)⟩
theorem HLaw.alloc {w W : World} {a : Option Addr} {c : Nat} {a1 : Option Addr} {c1 : Nat} {b : List UInt8} {pa : Option Addr} {pc : Nat} {pa1 : Option Addr} {pc1 : Nat} {p : List (Int × ByteArray)} (h : HLaw w W a c a1 c1 b pa pc pa1 pc1 p) (o : Obj) : HLaw w (W.alloc o) a c a1 c1 b pa pc pa1 pc1 p :=
  h.on ((Below.refl _ _).alloc (Nat.le_refl _) _)
set_option maxRecDepth 10000 in
set_option maxHeartbeats 2000000 in
theorem finds4 (v pv : Value) (b : List UInt8) (p : List (Int × ByteArray)) (w : World) (hr : RB w v b) (hs : v = .slice none 0 0 ∨ ∃ ad n c, v = .slice (some ad) n c) (hl : b.length ≤ 140737488351232) (hP : PSA w.heap.size w pv p) (hPs : pv = .slice none 0 0 ∨ ∃ ad n c, pv = .slice (some ad) n c) (hp : p.length * 24 ≤ 140737488355328) (hev : EVw w) (hT : TB w.heap.size w) :
    Calls Tryd.prog 4 #[v, pv] w fun e w' => e = .returned (.bool true) ∧ Below w.heap.size w w' := by
  have HR := Lib.hid (And.intro hr (And.intro hs (And.intro hev (And.intro hT (And.intro hP hPs)))))
  obtain ⟨a, c, rfl, _⟩ := hr
  obtain ⟨pa, pc, rfl, _⟩ := hP
  have hp2 : p.length ≤ 140737488351232 := by omega
  clear hs hev hT hPs
  go_enter Tryd.func4, Tryd.ntmps4
  go_wp2_with fail
  refine (twin13 _ b w HR.out.1 HR.out.2.1 hl).mono ?_
  rintro e w1 ⟨v1, rfl, ho, hb1⟩
  obtain ⟨a1, c1, rfl⟩ := ho.form'
  have HO : Hid (RB w1 (.slice a1 b.length c1) b ∧ RB w1 (.slice a b.length c) b ∧ EVw w1 ∧ TB w1.heap.size w1 ∧ Below w.heap.size w w1 ∧ PSA w1.heap.size w1 (.slice pa p.length pc) p ∧ (Value.slice pa p.length pc = .slice none 0 0 ∨ ∃ ad n c, Value.slice pa p.length pc = .slice (some ad) n c)) := ⟨ho.rb, HR.out.1.keep hb1, HR.out.2.2.1.keep hb1, tb_up (HR.out.2.2.2.1.on hb1) hb1.size, hb1, HR.out.2.2.2.2.1.on hb1, HR.out.2.2.2.2.2⟩
  clear ho hb1 HR
  go_wp2_with fail
  refine (twinSteps15 _ p w1 HO.out.2.2.2.2.2.1 HO.out.2.2.2.2.2.2 hp).mono ?_
  rintro e w2 ⟨v2, rfl, ho, hb2⟩
  obtain ⟨pa1, pc1, rfl⟩ : ∃ pa1 pc1, v2 = .slice pa1 p.length pc1 := by
    obtain ⟨pa1, pc1, e, _⟩ := (PSA.of_own ho).1
    exact ⟨pa1, pc1, e⟩
  have H2 : Hid (HLaw w w2 a c a1 c1 b pa pc pa1 pc1 p) := by
    obtain ⟨q1, q2, q3, q4, q5, q6, _⟩ := HO.out
    exact ⟨q2.keep hb2, q1.keep hb2, q6.on hb2, (PSA.of_own ho).1, q3.keep hb2, tb_up (q4.on hb2) hb2.size, q5.trans (hb2.mono q5.size)⟩
  clear HO ho hb2
  go_wp2_with fail
  refine (find12 a c b w2 pa pc p H2.out.rb H2.out.ev H2.out.pp hp2).mono ?_
  rintro e w3 ⟨x, er, rfl, hf, hb3⟩
  have HF := Lib.hid hf
  have H3 : Hid (HLaw w w3 a c a1 c1 b pa pc pa1 pc1 p) := H2.out.on hb3
  obtain ⟨kd, fr, to, dp, up, nt, ky, pl, fi⟩ := x
  have eSP : (Vi.sp (⟨kd, fr, to, dp, up, nt, ky, pl, fi⟩ : Vi)).toArray = #[.int .i64 kd, .int .i64 fr, .int .i64 to, .int .i64 dp, .int .i64 up, .int .i64 nt, .string ky] := rfl
  rw [eSP]
  clear hf hb3 H2
  have H4 : Hid (HLaw w (w3.alloc (Obj.cells #[.int .i64 kd, .int .i64 fr, .int .i64 to, .int .i64 dp, .int .i64 up, .int .i64 nt, .string ky] 37)) a c a1 c1 b pa pc pa1 pc1 p) := H3.out.alloc _
  go_wp2_with fail
  refine (find16 _ _ b p _ H4.out.rc hl H4.out.tb H4.out.pw hp2).mono ?_
  rintro e w4 ⟨x', er', rfl, hf', hb4⟩
  obtain ⟨e1, rfl⟩ := HF.out.unique hf'
  subst e1
  rw [eSP]
  have H5 : Hid (HLaw w w4 a c a1 c1 b pa pc pa1 pc1 p ∧ blk w4 w3.heap.size 37 #[.int .i64 kd, .int .i64 fr, .int .i64 to, .int .i64 dp, .int .i64 up, .int .i64 nt, .string ky]) := by
    have o : blk (w3.alloc (Obj.cells #[.int .i64 kd, .int .i64 fr, .int .i64 to, .int .i64 dp, .int .i64 up, .int .i64 nt, .string ky] 37)) w3.heap.size 37 #[.int .i64 kd, .int .i64 fr, .int .i64 to, .int .i64 dp, .int .i64 up, .int .i64 nt, .string ky] := heap_new _ _
    exact ⟨H4.out.on hb4, o.keep (hb4.block _ o.lt)⟩
  clear hf' hb4 H4 H3
  obtain ⟨s0, s1, s2, s3, s4, s5, s6⟩ : w4.cell? ⟨w3.heap.size, 0, none⟩ = some (.int .i64 kd) ∧ w4.cell? ⟨w3.heap.size, 1, none⟩ = some (.int .i64 fr) ∧ w4.cell? ⟨w3.heap.size, 2, none⟩ = some (.int .i64 to) ∧ w4.cell? ⟨w3.heap.size, 3, none⟩ = some (.int .i64 dp) ∧ w4.cell? ⟨w3.heap.size, 4, none⟩ = some (.int .i64 up) ∧ w4.cell? ⟨w3.heap.size, 5, none⟩ = some (.int .i64 nt) ∧ w4.cell? ⟨w3.heap.size, 6, none⟩ = some (.string ky) := ⟨H5.out.2.cell 0, H5.out.2.cell 1, H5.out.2.cell 2, H5.out.2.cell 3, H5.out.2.cell 4, H5.out.2.cell 5, H5.out.2.cell 6⟩
  have H6 : Hid (HLaw w (w4.alloc (Obj.cells #[.int .i64 kd, .int .i64 fr, .int .i64 to, .int .i64 dp, .int .i64 up, .int .i64 nt, .string ky] 37)) a c a1 c1 b pa pc pa1 pc1 p) := H5.out.1.alloc _
  have hlt : w3.heap.size < w4.heap.size := H5.out.2.lt
  generalize w3.heap.size = Sb at *
  go_wp2_with fail
  refine (spanSame30 ⟨kd, fr, to, dp, up, nt, ky, pl, fi⟩ _).mono ?_
  rintro e w5 ⟨rfl, hb5⟩
  have H7 : Hid (HLaw w w5 a c a1 c1 b pa pc pa1 pc1 p) := H6.out.on hb5
  clear hb5 H6 H5 s0 s1 s2 s3 s4 s5 s6 hlt HF eSP
  go_wp2_with fail
  refine (whole10 a c b w5 pa pc p H7.out.rb H7.out.ev H7.out.pp hp2).mono ?_
  rintro e w6 ⟨v6, er6, rfl, hw6, hb6⟩
  have H8 : Hid (HLaw w w6 a c a1 c1 b pa pc pa1 pc1 p ∧ WHO b p w5.heap.size w6 v6 er6) := ⟨H7.out.on hb6, hw6⟩
  clear hb6 hw6 H7
  go_wp2_with fail
  refine (whole18 _ _ b p w6 H8.out.1.rc hl H8.out.1.tb H8.out.1.pw hp2).mono ?_
  rintro e w7 ⟨v7, er7, rfl, hw7, hb7⟩
  obtain ⟨rfl, l, hl6, hl7, hll⟩ := WHO.rb H8.out.2 hw7
  have H9 : Hid (HLaw w w7 a c a1 c1 b pa pc pa1 pc1 p ∧ RB w7 v6 l ∧ RB w7 v7 l) := ⟨H8.out.1.on hb7, hl6.keep hb7, hl7⟩
  clear hb7 hw7 hl6 hl7 H8
  go_wp2_with fail
  refine (same9 _ _ l _ (by omega) H9.out.2.1 H9.out.2.2).mono ?_
  rintro e w8 ⟨rfl, nq, rfl⟩
  have HA : Hid (HLaw w (w7.drewN nq) a c a1 c1 b pa pc pa1 pc1 p) := H9.out.1.on ⟨rfl, rfl, rfl, Nat.le_refl _, fun _ _ => rfl⟩
  clear H9
  go_wp2_with fail
  refine (same9 _ _ b _ hl HA.out.rb HA.out.rc).mono ?_
  rintro e w9 ⟨rfl, nq2, rfl⟩
  have HB : Hid (HLaw w ((w7.drewN nq).drewN nq2) a c a1 c1 b pa pc pa1 pc1 p) := HA.out.on ⟨rfl, rfl, rfl, Nat.le_refl _, fun _ _ => rfl⟩
  clear HA
  generalize (w7.drewN nq).drewN nq2 = w9 at *
  go_wp2_with fail
  refine (stepsSame19 _ _ p _ hp2 HB.out.pp HB.out.pw).mono ?_
  rintro e w10 ⟨rfl, hb10⟩
  have HC : Hid (Below w.heap.size w w10) := HB.out.bel.trans (hb10.mono HB.out.bel.size)
  clear HB hb10
  go_wp2
  go_ret
  exact ⟨rfl, HC.out⟩
end Go.Proofs.YtdlnnnlmlaploabDoor
