import Derived.Test.YtdlnnnlmlaploaaDoorM21
import Derived.Test.YtdlnnnlmlaploaaDoorM23
namespace Go.Proofs.YtdlnnnlmlaploaaDoor
open Go.RowKit Go.Deep
/-! ### The reference's step -/
def stM (k : Int) (here : Nat) (nm : Int) (ky : ByteArray) (x : Vi) : Prop := x.up = (here : Int) ∧ ((k = 3 ∧ x.nt = nm) ∨ (k = 4 ∧ x.ky = ky))
/-- what step answers -/
def STO (l : List Vi) (here : Nat) (nm : Int) (ky : ByteArray) (r : Nat) (er : Int) : Prop :=
  ∃ y, l[here]? = some y ∧ ((¬ (y.kd = 3 ∨ y.kd = 4) ∧ r = 0 ∧ er = 31) ∨ ((y.kd = 3 ∨ y.kd = 4) ∧ ((er = 0 ∧ here < r ∧ (∃ x, l[r]? = some x ∧ stM y.kd here nm ky x) ∧ ∀ j x, here < j → j < r → l[j]? = some x → ¬ stM y.kd here nm ky x) ∨ (r = 0 ∧ er = 30 ∧ ∀ j x, here < j → l[j]? = some x → ¬ stM y.kd here nm ky x))))
set_option maxRecDepth 10000 in
set_option maxHeartbeats 2000000 in
theorem step31 (v : Value) (l : List Vi) (w : World) (here : Nat) (nm : Int) (ky : ByteArray) (hl : l.length ≤ 1048577) (hh : here < l.length) (h : RSp w v l) :
    Calls Tryd.prog 31 #[v, .int .i64 here, .agg #[.int .i64 nm, .string ky]] w fun e w' => ∃ (r : Nat) (er : Int), e = .returned (.tuple #[.int .i64 r, .int .i64 er]) ∧ STO l here nm ky r er ∧ Below w.heap.size w w' := by
  obtain ⟨a, c, rfl, h⟩ := h
  rcases h with rfl | ⟨g, rfl, hg, hc⟩
  · simp at hh
  obtain ⟨⟨ykd, yfr, yto, ydp, yup, ynt, yky, ypl, yfi⟩, hy⟩ : ∃ y, l[here]? = some y := ⟨_, List.getElem?_eq_getElem hh⟩
  have b0 : Below w.heap.size w (w.alloc (Obj.cells #[.int .i64 nm, .string ky] 34)) := (Below.refl _ _).alloc (Nat.le_refl _) _
  have HS : Hid (Below w.heap.size w (w.alloc (Obj.cells #[.int .i64 nm, .string ky] 34)) ∧ blk (w.alloc (Obj.cells #[.int .i64 nm, .string ky] 34)) w.heap.size 34 #[.int .i64 nm, .string ky] ∧ (∀ i x, l[i]? = some x → seven (w.alloc (Obj.cells #[.int .i64 nm, .string ky] 34)) g (i * 7) x)) := ⟨b0, heap_new _ _, fun i x hi => (hc i x hi).keep (b0.block g hg)⟩
  have HY := Lib.hid hy
  clear hc b0 hg hy
  generalize hn : l.length = n at *
  have HN := Lib.hid hn
  clear hn
  have hh0 : (0 : Int) ≤ (here : Int) := by omega
  have hh1 : (here : Int) < (n : Int) := by omega
  obtain ⟨s0, s1, s2, s3, s4, s5, s6⟩ := HS.out.2.2 here _ HY.out
  have p0 : (w.alloc (Obj.cells #[.int .i64 nm, .string ky] 34)).cell? ⟨w.heap.size, 0, none⟩ = some (.int .i64 nm) := HS.out.2.1.cell 0
  have p1 : (w.alloc (Obj.cells #[.int .i64 nm, .string ky] 34)).cell? ⟨w.heap.size, 1, none⟩ = some (.string ky) := HS.out.2.1.cell 1
  by_cases hk3 : ykd = 3
  · subst hk3
    go_enter Tryd.func31, Tryd.ntmps31
    go_wp2
    have HBS := Lib.hid HS.out
    clear HS s0 s1 s2 s3 s4 s5 s6
    generalize (w.alloc (Obj.cells #[.int .i64 nm, .string ky] 34)) = w0 at *
    generalize hvb : w.heap.size = vb at *
    have HBQ : Hid (Below w.heap.size w w0) := by rw [hvb]; exact HBS.out.1
    clear hvb
    go_loopw [9] (fun t wr => ∃ j nq : Nat, here < j ∧ j ≤ n ∧ t = .int .i64 j ∧ wr = w0.drewN nq ∧ Hid (∀ i x, here < i → i < j → l[i]? = some x → ¬ stM 3 here nm ky x)) (fun t _ => n - (intOf t).toNat)
    case atStart => exact ⟨here + 1, 0, by omega, by omega, by go_num, rfl, Lib.hid fun i x h1 h2 => by omega⟩
    case round =>
    obtain ⟨j, nq, hj0, hj, rfl, rfl, HNO⟩ := hrel
    by_cases hlt : j < n
    · obtain ⟨⟨kd, fr, to, dp, up, nt, kyx, pl, fi⟩, hx⟩ : ∃ x, l[j]? = some x := ⟨_, List.getElem?_eq_getElem (by rw [HN.out]; exact hlt)⟩
      have HX := Lib.hid hx
      obtain ⟨x0, x1, x2, x3, x4, x5, x6⟩ := HBS.out.2.2 j _ hx
      clear hx
      have j0 : (0 : Int) ≤ (j : Int) := by omega
      have j1 : (j : Int) < (n : Int) := by omega
      by_cases hu : up = (here : Int)
      · subst hu
        by_cases hm : nt = nm
        · subst hm
          go_wp2
          go_quiet (fail)
          go_wp2
          go_ret2
          exact ⟨j, 0, rfl, ⟨_, HY.out, .inr ⟨.inl rfl, .inl ⟨rfl, by omega, ⟨_, HX.out, rfl, .inl ⟨rfl, rfl⟩⟩, HNO.out⟩⟩⟩, ⟨HBQ.out.os, HBQ.out.tape, HBQ.out.output, HBQ.out.size, HBQ.out.block⟩⟩
        · have hm' : (nt == nm) = false := beq_eq_false_iff_ne.2 hm
          go_wp2
          go_quiet (fail)
          go_wp2
          refine ⟨⟨j + 1, _, by omega, by omega, by go_num, rfl, ?_⟩, by simp [intOf]; omega⟩
          refine Lib.hid fun i x' h1 h2 h3 => ?_
          by_cases hij : i = j
          · subst hij
            obtain rfl := Option.some.inj (HX.out.symm.trans h3)
            exact fun hm => by rcases hm.2 with ⟨_, e⟩ | ⟨e, _⟩; exact absurd e ‹¬ nt = nm›; cases e
          · exact HNO.out i x' h1 (by omega) h3
      · have hu' : (up == (here : Int)) = false := beq_eq_false_iff_ne.2 hu
        go_wp2
        go_quiet (fail)
        go_wp2
        refine ⟨⟨j + 1, _, by omega, by omega, by go_num, rfl, ?_⟩, by simp [intOf]; omega⟩
        refine Lib.hid fun i x' h1 h2 h3 => ?_
        by_cases hij : i = j
        · subst hij
          obtain rfl := Option.some.inj (HX.out.symm.trans h3)
          exact fun hm => by exact absurd hm.1 hu
        · exact HNO.out i x' h1 (by omega) h3
    · go_wp2
      go_ret2
      exact ⟨0, 30, rfl, ⟨_, HY.out, .inr ⟨.inl rfl, .inr ⟨rfl, rfl, fun i x h1 h2 => HNO.out i x h1 (by have := (List.getElem?_eq_some_iff.1 h2).1; have := HN.out; omega) h2⟩⟩⟩, ⟨HBQ.out.os, HBQ.out.tape, HBQ.out.output, HBQ.out.size, HBQ.out.block⟩⟩
  by_cases hk4 : ykd = 4
  · subst hk4
    go_enter Tryd.func31, Tryd.ntmps31
    go_wp2
    have HBS := Lib.hid HS.out
    clear HS s0 s1 s2 s3 s4 s5 s6
    generalize (w.alloc (Obj.cells #[.int .i64 nm, .string ky] 34)) = w0 at *
    generalize hvb : w.heap.size = vb at *
    have HBQ : Hid (Below w.heap.size w w0) := by rw [hvb]; exact HBS.out.1
    clear hvb
    go_loopw [9] (fun t wr => ∃ j nq : Nat, here < j ∧ j ≤ n ∧ t = .int .i64 j ∧ wr = w0.drewN nq ∧ Hid (∀ i x, here < i → i < j → l[i]? = some x → ¬ stM 4 here nm ky x)) (fun t _ => n - (intOf t).toNat)
    case atStart => exact ⟨here + 1, 0, by omega, by omega, by go_num, rfl, Lib.hid fun i x h1 h2 => by omega⟩
    case round =>
    obtain ⟨j, nq, hj0, hj, rfl, rfl, HNO⟩ := hrel
    by_cases hlt : j < n
    · obtain ⟨⟨kd, fr, to, dp, up, nt, kyx, pl, fi⟩, hx⟩ : ∃ x, l[j]? = some x := ⟨_, List.getElem?_eq_getElem (by rw [HN.out]; exact hlt)⟩
      have HX := Lib.hid hx
      obtain ⟨x0, x1, x2, x3, x4, x5, x6⟩ := HBS.out.2.2 j _ hx
      clear hx
      have j0 : (0 : Int) ≤ (j : Int) := by omega
      have j1 : (j : Int) < (n : Int) := by omega
      by_cases hu : up = (here : Int)
      · subst hu
        by_cases hm : kyx = ky
        · subst hm
          go_wp2
          go_quiet (fail)
          go_wp2
          go_ret2
          exact ⟨j, 0, rfl, ⟨_, HY.out, .inr ⟨.inr rfl, .inl ⟨rfl, by omega, ⟨_, HX.out, rfl, .inr ⟨rfl, rfl⟩⟩, HNO.out⟩⟩⟩, ⟨HBQ.out.os, HBQ.out.tape, HBQ.out.output, HBQ.out.size, HBQ.out.block⟩⟩
        · have hm' : (kyx.toList == ky.toList) = false := beq_eq_false_iff_ne.2 (fun e => hm (ba_ext (by rw [← ByteArray.toList_eq, ← ByteArray.toList_eq]; exact e)))
          go_wp2
          go_quiet (fail)
          go_wp2
          refine ⟨⟨j + 1, _, by omega, by omega, by go_num, rfl, ?_⟩, by simp [intOf]; omega⟩
          refine Lib.hid fun i x' h1 h2 h3 => ?_
          by_cases hij : i = j
          · subst hij
            obtain rfl := Option.some.inj (HX.out.symm.trans h3)
            exact fun hm => by rcases hm.2 with ⟨e, _⟩ | ⟨_, e⟩; cases e; exact absurd e ‹¬ kyx = ky›
          · exact HNO.out i x' h1 (by omega) h3
      · have hu' : (up == (here : Int)) = false := beq_eq_false_iff_ne.2 hu
        go_wp2
        go_quiet (fail)
        go_wp2
        refine ⟨⟨j + 1, _, by omega, by omega, by go_num, rfl, ?_⟩, by simp [intOf]; omega⟩
        refine Lib.hid fun i x' h1 h2 h3 => ?_
        by_cases hij : i = j
        · subst hij
          obtain rfl := Option.some.inj (HX.out.symm.trans h3)
          exact fun hm => by exact absurd hm.1 hu
        · exact HNO.out i x' h1 (by omega) h3
    · go_wp2
      go_ret2
      exact ⟨0, 30, rfl, ⟨_, HY.out, .inr ⟨.inr rfl, .inr ⟨rfl, rfl, fun i x h1 h2 => HNO.out i x h1 (by have := (List.getElem?_eq_some_iff.1 h2).1; have := HN.out; omega) h2⟩⟩⟩, ⟨HBQ.out.os, HBQ.out.tape, HBQ.out.output, HBQ.out.size, HBQ.out.block⟩⟩
  · have k3' : (ykd != 3) = true := by simpa using hk3
    have k4' : (ykd != 4) = true := by simpa using hk4
    go_enter Tryd.func31, Tryd.ntmps31
    go_wp2
    go_ret2
    exact ⟨0, 31, rfl, ⟨_, HY.out, .inl ⟨fun h => h.elim hk3 hk4, rfl, rfl⟩⟩, HS.out.1⟩
end Go.Proofs.YtdlnnnlmlaploaaDoor
namespace Go.Proofs.YtdlnnnlmlaploaaDoor
/-! ### Where follow comes to: plain lists -/
/-- the path leads in d steps to the place r -/
inductive Led (p : List (Int × ByteArray)) (L : List Vi) : Nat → Nat → Prop where
  | root : Led p L 0 0
  | next {d r r' : Nat} {n : Int} {k : ByteArray} {y x : Vi} : Led p L d r → p[d]? = some (n, k) → L[r]? = some y → (y.kd = 3 ∨ y.kd = 4) → r < r' → L[r']? = some x → stM y.kd r n k x → (∀ (j : Nat) (z : Vi), r < j → j < r' → L[j]? = some z → ¬ stM y.kd r n k z) → Led p L (d + 1) r'
theorem Led.le {p : List (Int × ByteArray)} {L : List Vi} {d r : Nat} (h : Led p L d r) : d ≤ p.length := by
  cases h with
  | root => exact Nat.zero_le _
  | next _ h _ _ _ _ _ _ => exact (List.getElem?_eq_some_iff.1 h).1
def Sub (K L : List Vi) : Prop := ∀ (j : Nat) (x : Vi), K[j]? = some x → ∃ y, L[j]? = some y ∧ Eq6 x y
theorem stM.eq {k : Int} {r : Nat} {n : Int} {s : ByteArray} {x y : Vi} (h : stM k r n s x) (e : Eq6 x y) : stM k r n s y := by
  unfold stM at h ⊢
  rw [e.up, e.nt, e.ky]
  exact h
theorem Led.mono {p : List (Int × ByteArray)} {K L : List Vi} (hs : Sub K L) {d r : Nat} (h : Led p K d r) : Led p L d r := by
  induction h with
  | root => exact .root
  | @next d r r' n k y x _ h1 h2 h3 h4 h5 h6 h7 ih =>
    obtain ⟨y', hy', ey⟩ := hs r y h2
    obtain ⟨x', hx', ex⟩ := hs r' x h5
    refine .next ih h1 hy' (by rw [ey.kd]; exact h3) h4 hx' (by rw [ey.kd]; exact h6.eq ex) fun j z hj1 hj2 hz => ?_
    rw [ey.kd]
    have hl := (List.getElem?_eq_some_iff.1 h5).1
    have hjl : j < K.length := by omega
    obtain ⟨z', hz', ez⟩ := hs j _ (List.getElem?_eq_getElem hjl)
    obtain rfl := Option.some.inj (hz.symm.trans hz')
    exact fun hm => h7 j _ hj1 hj2 (List.getElem?_eq_getElem hjl) (hm.eq ez.symm)
theorem sub_app (K B : List Vi) : Sub K (K ++ B) := fun j x hx => ⟨x, by rw [List.getElem?_append_left (List.getElem?_eq_some_iff.1 hx).1]; exact hx, .refl x⟩
theorem get_modify (K : List Vi) (k : Nat) (to : Int) (j : Nat) : (K.modify k fun x => { x with to := to })[j]? = (K[j]?).map fun x => if k = j then { x with to := to } else x := by
  rw [List.getElem?_modify]; rfl
theorem sub_modify (K : List Vi) (k : Nat) (to : Int) : Sub K (K.modify k fun x => { x with to := to }) := fun j x hx => by
  refine ⟨if k = j then { x with to := to } else x, by rw [get_modify, hx]; rfl, ?_⟩
  split
  · exact ⟨rfl, rfl, rfl, rfl, rfl, rfl⟩
  · exact .refl x
theorem modify_sub (K : List Vi) (k : Nat) (to : Int) : Sub (K.modify k fun x => { x with to := to }) K := fun j x hx => by
  rw [get_modify, Option.map_eq_some_iff] at hx
  obtain ⟨y, hy, rfl⟩ := hx
  refine ⟨y, hy, ?_⟩
  split
  · exact ⟨rfl, rfl, rfl, rfl, rfl, rfl⟩
  · exact .refl y
theorem sk_new {h : List Vi} {v : Vi} (hp : v.pl = ((sk h).length : Int)) : sk (h ++ [v]) = sk h ++ [v] := by
  rw [sk_snoc]
  unfold skStep
  rw [if_pos hp, hp]
  exact modify_mid (fun x : Vi => { x with to := v.to }) v [] (sk h)
theorem sk_old {h : List Vi} {v : Vi} {k : Nat} (hp : v.pl = (k : Int)) (hk : k < (sk h).length) : sk (h ++ [v]) = (sk h).modify k fun x => { x with to := v.to } := by
  rw [sk_snoc]
  unfold skStep
  rw [if_neg (by omega), hp]
  rfl
/-- the place of the one above -/
def upOf : List Lv → Int
  | [] => -1
  | l :: _ => l.pl
/-- a level as it was shown when it began -/
def Lv.bg (l : Lv) : Vi := ⟨l.kd, l.fr, 0, l.dp, l.up, l.nt, l.ky, l.pl, l.fi⟩
/-- how the levels hang together, and what was kept of them -/
def LK (K : List Vi) : List Lv → Prop
  | [] => True
  | l :: r => (l.up = upOf r ∧ l.dp = (r.length : Int) ∧ upOf r < l.pl ∧ ∃ x, K[l.pl.toNat]? = some x ∧ Eq6 l.bg x) ∧ LK K r
theorem LK.mono {K L : List Vi} (hs : Sub K L) : ∀ {ls : List Lv}, LK K ls → LK L ls
  | [], _ => trivial
  | _ :: _, ⟨⟨h1, h2, h3, x, h4, h5⟩, h⟩ => by
    obtain ⟨y, hy, e⟩ := hs _ x h4
    exact ⟨⟨h1, h2, h3, y, hy, h5.trans e⟩, h.mono hs⟩
theorem LK.up {K : List Vi} : ∀ {ls : List Lv}, LK K ls → -1 ≤ upOf ls
  | [], _ => Int.le_refl _
  | _ :: r, h => by
    have := LK.up (ls := r) h.2
    have := h.1.2.2.1
    show -1 ≤ Lv.pl _
    omega
theorem LK.lt {K : List Vi} : ∀ {u : List Lv} {l : Lv} {r : List Lv}, LK K (u ++ l :: r) → ∀ a ∈ u, l.pl < a.pl
  | [], _, _, _, _, ha => by cases ha
  | a :: u, l, r, h, x, hx => by
    rcases List.mem_cons.1 hx with rfl | hx
    · have h3 := h.1.2.2.1
      cases u with
      | nil => exact h3
      | cons c u =>
        have h4 : c.pl < x.pl := h3
        have := LK.lt (u := c :: u) h.2 c (by simp)
        omega
    · exact LK.lt (u := u) h.2 x hx
theorem LK.mem {K : List Vi} : ∀ {u : List Lv} {l : Lv} {r : List Lv}, LK K (u ++ l :: r) → LK K (l :: r)
  | [], _, _, h => h
  | _ :: u, _, _, h => LK.mem (u := u) h.2
/-- what is known of a value that begins -/
theorem vg_facts {b : List UInt8} (hlim : b.length ≤ 1048576) {go : List Vi → Bool} {h : List Vi} {ls : List Lv} {i n : Nat} {v : Vi} {ls' : List Lv} {i' : Nat} (hr : Rch b go h (.val ls i n)) (hv : VG b ls i n v ls' i') :
    v.pl = (n : Int) ∧ v.up = upOf ls ∧ v.dp = (ls.length : Int) ∧ ((v.to ≠ 0 ∧ ls' = ls) ∨ (v.to = 0 ∧ ls' = newL v :: ls ∧ (v.kd = 3 ∨ v.kd = 4) ∧ (newL v).bg = v)) := by
  have hi : i ≤ b.length := (hr.ok hlim).1
  have hu : (dueV ls i n).up = upOf ls := by cases ls <;> rfl
  obtain ⟨d1, d2, d3, d4⟩ := due_fr' ls i n
  rcases hv with ⟨t, j, c1, c2, c3, rfl, rfl, rfl⟩ | ⟨c1, c2, c3, rfl, rfl⟩
  · have hj := leaf_pos hi hlim c1 c2 c3
    exact ⟨d3, hu, due_dpt _ _ _, .inl ⟨by show (i : Int) + (j : Int) ≠ 0; omega, rfl⟩⟩
  · have key : ∀ kdv : Int, (kdv = 3 ∨ kdv = 4) → v = { dueV ls i n with kd := kdv } → v.pl = (n : Int) ∧ v.up = upOf ls ∧ v.dp = (ls.length : Int) ∧ ((v.to ≠ 0 ∧ newL v :: ls = ls) ∨ (v.to = 0 ∧ newL v :: ls = newL v :: ls ∧ (v.kd = 3 ∨ v.kd = 4) ∧ (newL v).bg = v)) := by
      intro kdv hk hv
      subst hv
      refine ⟨d3, hu, due_dpt _ _ _, .inr ⟨d2, rfl, hk, ?_⟩⟩
      show (⟨_, _, 0, _, _, _, _, _, _⟩ : Vi) = ⟨_, _, (dueV ls i n).to, _, _, _, _, _, _⟩
      rw [d2]
      rfl
    rcases c3 with ⟨_, hv⟩ | ⟨_, hv⟩
    · exact key 3 (.inl rfl) hv
    · exact key 4 (.inr rfl) hv
theorem part_same {b : List UInt8} {l l' : Lv} {i i' : Nat} (hp : PGd b l i l' i') : l'.bg = l.bg := by
  rcases hp with ⟨_, rfl, _⟩ | ⟨_, _, t, j, _, _, rfl, _⟩ <;> rfl
theorem bg_fields {l l' : Lv} (h : l'.bg = l.bg) : l'.kd = l.kd ∧ l'.up = l.up ∧ l'.dp = l.dp ∧ l'.pl = l.pl :=
  ⟨congrArg Vi.kd h, congrArg Vi.up h, congrArg Vi.dp h, congrArg Vi.pl h⟩
theorem Rch.lk {b : List UInt8} (hlim : b.length ≤ 1048576) {go : List Vi → Bool} {h : List Vi} {s : RS} (H : Rch b go h s) : LK (sk h) s.ls := by
  induction H with
  | start => trivial
  | @value h ls i n v ls' i' hr hv _ ih =>
    obtain ⟨f1, f2, f3, f4⟩ := vg_facts hlim hr hv
    obtain ⟨pn, pl⟩ := hr.places
    have pn' : (sk h).length = n := pn
    have ih' : LK (sk h) ls := ih
    rw [sk_new (by rw [pn']; exact f1)]
    have hb := ih'.mono (sub_app (sk h) [v])
    show LK _ ls'
    rcases f4 with ⟨_, rfl⟩ | ⟨_, rfl, _, hbg⟩
    · exact hb
    · obtain ⟨_, g2, g3, g4⟩ := (⟨rfl, rfl, rfl, rfl⟩ : (newL v).kd = v.kd ∧ (newL v).up = v.up ∧ (newL v).dp = v.dp ∧ (newL v).pl = v.pl)
      refine ⟨⟨g2.trans f2, g3.trans f3, ?_, v, ?_, by rw [hbg]; exact .refl v⟩, hb⟩
      · rw [g4, f1]
        cases ls with
        | nil => show (-1 : Int) < _; omega
        | cons l r => exact (pl l (by simp [RS.ls])).2
      · rw [g4, f1, show ((n : Int)).toNat = n from rfl, ← pn']
        simp
  | @part h l r i n l' i' _ _ hp ih =>
    obtain ⟨⟨h1, h2, h3, x, h4, h5⟩, h6⟩ : LK (sk h) (l :: r) := ih
    have e := part_same hp
    obtain ⟨_, e2, e3, e4⟩ := bg_fields e
    exact ⟨⟨e2.trans h1, e3.trans h2, by rw [e4]; exact h3, x, by rw [e4]; exact h4, by rw [e]; exact h5⟩, h6⟩
  | @close h l r i n hr _ _ _ ih =>
    obtain ⟨_, h6⟩ : LK (sk h) (l :: r) := ih
    obtain ⟨pn, pl⟩ := hr.places
    have pn' : (sk h).length = n := pn
    have hl := pl l (by simp [RS.ls])
    have hl2 : l.pl < (n : Int) := hl.2
    rw [sk_old (v := endV l i) (k := l.pl.toNat) (by show l.pl = _; omega) (by omega)]
    exact h6.mono (sub_modify _ _ _)
/-! ### One value more -/
theorem fw_lead {p : List (Int × ByteArray)} {q v : Vi} (h1 : v.up = q.pl) (h2 : leadsP p q.kd v = true) : fw p q v = (v, decide (v.to = 0)) := by
  unfold fw fwS
  rw [if_pos ⟨h1, h2⟩]
  by_cases ht : v.to = 0
  · rw [fwE_miss (fun h => h.2 ht)]; simp [ht]
  · rw [fwE_hit rfl ht]; simp [ht]
theorem fw_past {p : List (Int × ByteArray)} {q v : Vi} (h1 : ¬ (v.up = q.pl ∧ leadsP p q.kd v = true)) (h2 : v.pl ≠ q.pl) : fw p q v = (q, true) := by
  unfold fw fwS
  rw [if_neg h1, fwE_miss (fun h => h2 h.1)]
theorem fw_end {p : List (Int × ByteArray)} {q v : Vi} (h1 : ¬ (v.up = q.pl ∧ leadsP p q.kd v = true)) (h2 : v.pl = q.pl) (h3 : v.to ≠ 0) : fw p q v = (v, false) := by
  unfold fw fwS
  rw [if_neg h1, fwE_hit h2 h3]
theorem leads_iff {p : List (Int × ByteArray)} {ar : Int} {v : Vi} {d here : Nat} (ha : ar = 3 ∨ ar = 4) (hd : v.dp = ((d + 1 : Nat) : Int)) (hu : v.up = (here : Int)) : leadsP p ar v = true ↔ ∃ n k, p[d]? = some (n, k) ∧ stM ar here n k v := by
  unfold leadsP
  rw [if_neg (by rw [hd]; omega), hd, show (((d + 1 : Nat) : Int) - 1).toNat = d by omega]
  cases hp : p[d]? with
  | none => exact ⟨fun h => by simp at h, fun ⟨n, k, h, _⟩ => by cases h⟩
  | some nk =>
    obtain ⟨n, k⟩ := nk
    dsimp only
    constructor
    · intro h
      refine ⟨n, k, rfl, hu, ?_⟩
      rcases ha with rfl | rfl
      · rw [if_pos rfl] at h
        exact .inl ⟨rfl, by simpa using (beq_iff_eq.1 h).symm⟩
      · rw [if_neg (by decide)] at h
        exact .inr ⟨rfl, ba_ext (by rw [← ByteArray.toList_eq, ← ByteArray.toList_eq]; exact (beq_iff_eq.1 h).symm)⟩
    · rintro ⟨n', k', e, _, h⟩
      cases e
      rcases h with ⟨rfl, h⟩ | ⟨rfl, h⟩
      · rw [if_pos rfl, h]; exact beq_self_eq_true _
      · rw [if_neg (by decide), h]; exact beq_self_eq_true _
def NoM (p : List (Int × ByteArray)) (K : List Vi) (l : Lv) (d : Nat) : Prop := ∀ n k, p[d]? = some (n, k) → ∀ (j : Nat) (x : Vi), l.pl.toNat < j → K[j]? = some x → ¬ stM l.kd l.pl.toNat n k x
/-- follow stands at a level that is open -/
def FI (p : List (Int × ByteArray)) (K : List Vi) (q : Vi) (ls : List Lv) : Prop := ∃ u l r, ls = u ++ l :: r ∧ q = l.bg ∧ (l.kd = 3 ∨ l.kd = 4) ∧ Led p K r.length l.pl.toNat ∧ NoM p K l r.length
theorem fw_value {p : List (Int × ByteArray)} {K : List Vi} {q : Vi} {ls : List Lv} {v : Vi} (h : (K = [] ∧ ls = [] ∧ q = fw0) ∨ FI p K q ls) (hk : LK K ls) (hp : ∀ l ∈ ls, l.pl < (K.length : Int)) (v1 : v.pl = (K.length : Int)) (v2 : v.up = upOf ls) (v3 : v.dp = (ls.length : Int)) :
    (fw p q v = (v, decide (v.to = 0)) ∧ Led p (K ++ [v]) ls.length K.length) ∨ (fw p q v = (q, true) ∧ FI p (K ++ [v]) q ls) := by
  rcases h with ⟨rfl, rfl, rfl⟩ | ⟨u, l, r, rfl, rfl, hc, hl, hn⟩
  · refine .inl ⟨fw_lead v2 ?_, .root⟩
    unfold leadsP
    rw [if_pos (show v.dp = 0 from v3)]
  · have hm := hk.mem
    obtain ⟨⟨k1, k2, k3, y, k4, k5⟩, k6⟩ := hm
    have h0 : 0 ≤ l.pl := by have := k6.up; omega
    have hlt : l.pl < (K.length : Int) := hp l (by simp)
    have hne : v.pl ≠ l.bg.pl := by show v.pl ≠ l.pl; omega
    have newNoM : (∀ n k, p[r.length]? = some (n, k) → ¬ stM l.kd l.pl.toNat n k v) → NoM p (K ++ [v]) l r.length := by
      intro hv n k hpk j x hj hx
      by_cases hjl : j < K.length
      · rw [List.getElem?_append_left hjl] at hx
        exact hn n k hpk j x hj hx
      · rw [List.getElem?_append_right (by omega)] at hx
        have hjl' := (List.getElem?_eq_some_iff.1 hx).1
        have : j - K.length = 0 := by simp at hjl'; omega
        rw [this] at hx
        obtain rfl := Option.some.inj hx
        exact hv n k hpk
    cases u with
    | nil =>
      have v2' : v.up = l.pl := v2
      have v2n : v.up = (l.pl.toNat : Int) := by omega
      have v3' : v.dp = ((r.length + 1 : Nat) : Int) := v3
      by_cases hle : leadsP p l.kd v = true
      · refine .inl ⟨fw_lead v2' hle, ?_⟩
        obtain ⟨n, k, hpk, hst⟩ := (leads_iff hc v3' v2n).1 hle
        have hyk : y.kd = l.kd := k5.kd
        show Led p (K ++ [v]) (r.length + 1) K.length
        refine .next (y := y) (x := v) (hl.mono (sub_app K [v])) hpk (by rw [List.getElem?_append_left (by omega)]; exact k4) (by rw [hyk]; exact hc) (by omega) (by simp) (by rw [hyk]; exact hst) fun j z hj1 hj2 hz => ?_
        rw [List.getElem?_append_left hj2] at hz
        rw [hyk]
        exact hn n k hpk j z hj1 hz
      · refine .inr ⟨fw_past (fun h => hle h.2) hne, [], l, r, rfl, rfl, hc, hl.mono (sub_app K [v]), newNoM fun n k hpk hst => hle ((leads_iff hc v3' v2n).2 ⟨n, k, hpk, hst⟩)⟩
    | cons a u =>
      have hal : l.pl < a.pl := hk.lt a (by simp)
      have v2' : v.up = a.pl := v2
      exact .inr ⟨fw_past (fun h => by have h1 : v.up = l.pl := h.1; omega) hne, a :: u, l, r, rfl, rfl, hc, hl.mono (sub_app K [v]), newNoM fun n k hpk hst => by have := hst.1; omega⟩
theorem fw_close {p : List (Int × ByteArray)} {K : List Vi} {q : Vi} {l0 : Lv} {r0 : List Lv} {i : Nat} (h : FI p K q (l0 :: r0)) (hk : LK K (l0 :: r0)) :
    (fw p q (endV l0 i) = (endV l0 i, false) ∧ (l0.kd = 3 ∨ l0.kd = 4) ∧ Led p K r0.length l0.pl.toNat ∧ NoM p K l0 r0.length) ∨ (fw p q (endV l0 i) = (q, true) ∧ FI p K q r0) := by
  obtain ⟨u, l, r, e, rfl, hc, hl, hn⟩ := h
  have hto : (endV l0 i).to ≠ 0 := by show (i : Int) + 1 ≠ 0; omega
  cases u with
  | nil =>
    injection e with e1 e2
    subst e1 e2
    refine .inl ⟨fw_end (fun h => ?_) rfl hto, hc, hl, hn⟩
    have h1 : l0.up = l0.pl := h.1
    have h2 := hk.1.1
    have h3 := hk.1.2.2.1
    omega
  | cons a u =>
    injection e with e1 e2
    subst e1 e2
    have hal : l.pl < l0.pl := LK.lt (u := l0 :: u) hk l0 (by simp)
    have hm := LK.mem (u := l0 :: u) hk
    obtain ⟨⟨k1, k2, k3, y, k4, k5⟩, k6⟩ := hm
    have h0 : 0 ≤ l.pl := by have := k6.up; omega
    refine .inr ⟨fw_past (fun h => ?_) (by show l0.pl ≠ l.pl; omega), u, l, r, rfl, rfl, hc, hl, hn⟩
    have h1 : l0.up = l.pl := h.1
    have h2 : l0.up = upOf (u ++ l :: r) := hk.1.1
    cases u with
    | nil =>
      obtain ⟨x, hx, ex⟩ := hk.1.2.2.2
      have h3 : l0.dp = ((r.length + 1 : Nat) : Int) := hk.1.2.1
      obtain ⟨n, k, hpk, hst⟩ := (leads_iff (v := endV l0 i) (d := r.length) (here := l.pl.toNat) hc h3 (by show l0.up = _; omega)).1 h.2
      exact hn n k hpk l0.pl.toNat x (by omega) hx (hst.eq ⟨ex.kd, ex.fr, ex.dp, ex.up, ex.nt, ex.ky⟩)
    | cons c u =>
      have h3 : l0.up = c.pl := h2
      have h4 := LK.lt (u := c :: u) hk.2 c (by simp)
      omega
theorem NoM.mono {p : List (Int × ByteArray)} {K L : List Vi} (hs : Sub L K) {l : Lv} {d : Nat} (h : NoM p K l d) : NoM p L l d := fun n k hp j x hj hx hm => by
  obtain ⟨y, hy, e⟩ := hs j x hx
  exact h n k hp j y hj hy (hm.eq e)
theorem FI.mono {p : List (Int × ByteArray)} {K L : List Vi} (h1 : Sub K L) (h2 : Sub L K) {q : Vi} {ls : List Lv} (h : FI p K q ls) : FI p L q ls := by
  obtain ⟨u, l, r, e1, e2, hc, hl, hn⟩ := h
  exact ⟨u, l, r, e1, e2, hc, hl.mono h1, hn.mono h2⟩
theorem Rch.fi {b : List UInt8} (hlim : b.length ≤ 1048576) {p : List (Int × ByteArray)} {h : List Vi} {s : RS} (H : Rch b (goF p) h s) : (h = [] ∧ s = .val [] 0 0) ∨ FI p (sk h) (fwF p h).1 s.ls := by
  induction H with
  | start => exact .inl ⟨rfl, rfl⟩
  | @value h ls i n v ls' i' hr hv hg ih =>
    obtain ⟨f1, f2, f3, f4⟩ := vg_facts hlim hr hv
    obtain ⟨pn, pl⟩ := hr.places
    have pn' : (sk h).length = n := pn
    have hk : LK (sk h) ls := hr.lk hlim
    have ih' : (sk h = [] ∧ ls = [] ∧ (fwF p h).1 = fw0) ∨ FI p (sk h) (fwF p h).1 ls := by
      rcases ih with ⟨rfl, e⟩ | ih
      · injection e with e1
        exact .inl ⟨rfl, e1, rfl⟩
      · exact .inr ih
    have hg' : (fw p (fwF p h).1 v).2 = true := by rw [← fwF_snoc]; exact hg
    refine .inr ?_
    rw [sk_new (by rw [pn']; exact f1), fwF_snoc]
    show FI p _ _ ls'
    rcases fw_value (p := p) ih' hk (fun l hl => by rw [pn']; exact (pl l hl).2) (by rw [pn']; exact f1) f2 f3 with ⟨e, hled⟩ | ⟨e, hfi⟩
    · rw [e] at hg' ⊢
      have ht : v.to = 0 := by simpa using hg'
      rcases f4 with ⟨h1, _⟩ | ⟨_, rfl, hc, hbg⟩
      · exact absurd ht h1
      · have g1 : (newL v).kd = v.kd := rfl
        have g4 : (newL v).pl = v.pl := rfl
        have hpl : (newL v).pl.toNat = (sk h).length := by rw [g4, f1, pn']; rfl
        refine ⟨[], newL v, ls, rfl, hbg.symm, by rw [g1]; exact hc, by rw [hpl]; exact hled, fun n' k _ j x hj hx => ?_⟩
        rw [hpl] at hj
        rw [List.getElem?_eq_none (by simp; omega)] at hx
        cases hx
    · rw [e]
      rcases f4 with ⟨_, rfl⟩ | ⟨_, rfl, _, _⟩
      · exact hfi
      · obtain ⟨u, l, r, e1, e2, hc, hl, hn⟩ := hfi
        exact ⟨newL v :: u, l, r, by rw [e1]; rfl, e2, hc, hl, hn⟩
  | @part h l r i n l' i' _ _ hp ih =>
    rcases ih with ⟨_, e⟩ | ih
    · cases e
    · refine .inr ?_
      obtain ⟨u, l2, r2, e1, e2, hc, hl, hn⟩ := ih
      have e := part_same hp
      obtain ⟨g1, _, _, g4⟩ := bg_fields e
      cases u with
      | nil =>
        have e1' : l :: r = l2 :: r2 := e1
        injection e1' with e3 e4
        subst e3 e4
        refine ⟨[], l', r, rfl, by rw [e]; exact e2, by rw [g1]; exact hc, by rw [g4]; exact hl, fun n' k hpk j x hj hx => ?_⟩
        rw [g4] at hj ⊢
        rw [g1]
        exact hn n' k hpk j x hj hx
      | cons a u =>
        have e1' : l :: r = a :: (u ++ l2 :: r2) := e1
        injection e1' with e3 e4
        exact ⟨l' :: u, l2, r2, by rw [e4]; rfl, e2, hc, hl, hn⟩
  | @close h l r i n hr _ _ hg ih =>
    rcases ih with ⟨_, e⟩ | ih
    · cases e
    · refine .inr ?_
      have hk : LK (sk h) (l :: r) := hr.lk hlim
      obtain ⟨pn, pl⟩ := hr.places
      have pn' : (sk h).length = n := pn
      have hl := pl l (by simp [RS.ls])
      have hl2 : l.pl < (n : Int) := hl.2
      have hg' : (fw p (fwF p h).1 (endV l i)).2 = true := by rw [← fwF_snoc]; exact hg
      rw [sk_old (v := endV l i) (k := l.pl.toNat) (by show l.pl = _; omega) (by omega), fwF_snoc]
      rcases fw_close (i := i) (show FI p (sk h) (fwF p h).1 (l :: r) from ih) hk with ⟨e, _⟩ | ⟨e, hfi⟩
      · rw [e] at hg'; cases hg'
      · rw [e]
        exact hfi.mono (sub_modify _ _ _) (modify_sub _ _ _)
/-! ### How follow ends -/
structure FO2 (p : List (Int × ByteArray)) (L : List Vi) (q : Vi) (d r : Nat) (x : Vi) : Prop where
  dp : q.dp = (d : Int)
  led : Led p L d r
  at' : L[r]? = some x
  eq : Eq6 q x
  to : x.to = q.to
  no : (q.kd = 3 ∨ q.kd = 4) → ∀ n k, p[d]? = some (n, k) → ∀ (j : Nat) (z : Vi), r < j → L[j]? = some z → ¬ stM q.kd r n k z
theorem leaf_kd {b : List UInt8} (hlim : b.length ≤ 1048576) {go : List Vi → Bool} {h : List Vi} {ls : List Lv} {i n : Nat} {v : Vi} {ls' : List Lv} {i' : Nat} (hr : Rch b go h (.val ls i n)) (hv : VG b ls i n v ls' i') (ht : v.to ≠ 0) : ¬ (v.kd = 3 ∨ v.kd = 4) := by
  have hi : i ≤ b.length := (hr.ok hlim).1
  obtain ⟨d1, d2, d3, d4⟩ := due_fr' ls i n
  rcases hv with ⟨t, j, c1, c2, c3, rfl, rfl, rfl⟩ | ⟨c1, c2, c3, rfl, rfl⟩
  · show ¬ (t.k = 3 ∨ t.k = 4)
    rcases (leaf_val hi hlim c1 c2 c3).2.2 with e | e
    · rw [e]; show ¬ ((1 : Int) = 3 ∨ (1 : Int) = 4); omega
    · rw [e]; show ¬ ((2 : Int) = 3 ∨ (2 : Int) = 4); omega
  · rcases c3 with ⟨_, hv⟩ | ⟨_, hv⟩
    · exact absurd (by rw [hv]; exact d2) ht
    · exact absurd (by rw [hv]; exact d2) ht
theorem Fin.led {b : List UInt8} (hlim : b.length ≤ 1048576) {p : List (Int × ByteArray)} {h : List Vi} {pp e0 : Int} (H : Fin b (goF p) h pp e0) {t : T} {k : Nat} (hd : DOUT b t k 0) : ∃ d r x, FO2 p ((walkT t 0 (dueS [])).map Sp.v) (fwF p h).1 d r x := by
  have bad : ∀ {h : List Vi} {pp er : Int}, Fin b gT h pp er → er = 0 := fun hF => by
    obtain ⟨t', k', _, hd', _⟩ := hF.out hlim
    exact (DOUT.unique hd hd').2.2.symm
  cases H with
  | @vstop h ls i n v ls' i' hr hv hg =>
    obtain ⟨f1, f2, f3, f4⟩ := vg_facts hlim hr hv
    obtain ⟨pn, pl⟩ := hr.places
    have pn' : (sk h).length = n := pn
    have hk : LK (sk h) ls := hr.lk hlim
    have ih' : (sk h = [] ∧ ls = [] ∧ (fwF p h).1 = fw0) ∨ FI p (sk h) (fwF p h).1 ls := by
      rcases hr.fi hlim with ⟨rfl, e⟩ | ih
      · injection e with e1
        exact .inl ⟨rfl, e1, rfl⟩
      · exact .inr ih
    have hg' : (fw p (fwF p h).1 v).2 = false := by rw [← fwF_snoc]; exact hg
    have hsk : sk (h ++ [v]) = sk h ++ [v] := sk_new (by rw [pn']; exact f1)
    have hx := (Rch.value hr.free hv rfl).ext hlim hd
    rw [hsk] at hx
    rcases fw_value (p := p) ih' hk (fun l hl => by rw [pn']; exact (pl l hl).2) (by rw [pn']; exact f1) f2 f3 with ⟨e, hled⟩ | ⟨e, hfi⟩
    · rw [e] at hg'
      have ht : v.to ≠ 0 := by simpa using hg'
      rw [fwF_snoc, e]
      obtain ⟨x, hx1, hx2, hx3⟩ := hx.old (sk h).length v (by simp)
      exact ⟨ls.length, (sk h).length, x, f3, hled.mono (fun j y hy => by obtain ⟨z, g1, g2, _⟩ := hx.old j y hy; exact ⟨z, g1, g2⟩), hx1, hx2, hx3 ht, fun hc => absurd hc (leaf_kd hlim hr hv ht)⟩
    · rw [e] at hg'; cases hg'
  | @estop h l r i n hr hi hb hg =>
    rcases hr.fi hlim with ⟨_, e⟩ | ih
    · cases e
    · have hk : LK (sk h) (l :: r) := hr.lk hlim
      obtain ⟨pn, pl⟩ := hr.places
      have pn' : (sk h).length = n := pn
      have hl := pl l (by simp [RS.ls])
      have hl2 : l.pl < (n : Int) := hl.2
      have hl0 : 0 ≤ l.pl := hl.1
      have hg' : (fw p (fwF p h).1 (endV l i)).2 = false := by rw [← fwF_snoc]; exact hg
      have hsk : sk (h ++ [endV l i]) = (sk h).modify l.pl.toNat fun x => { x with to := (endV l i).to } := sk_old (by show l.pl = _; omega) (by omega)
      have hx := (Rch.close hr.free hi hb rfl).ext hlim hd
      rw [hsk] at hx
      rcases fw_close (i := i) (show FI p (sk h) (fwF p h).1 (l :: r) from ih) hk with ⟨e, hc, hled, hno⟩ | ⟨e, _⟩
      · rw [fwF_snoc, e]
        obtain ⟨y, hy, ey⟩ := hk.1.2.2.2
        have hy' : ((sk h).modify l.pl.toNat fun x => { x with to := (endV l i).to })[l.pl.toNat]? = some { y with to := (endV l i).to } := by
          rw [get_modify, hy]
          show some (if l.pl.toNat = l.pl.toNat then _ else _) = _
          rw [if_pos rfl]
        obtain ⟨x, hx1, hx2, hx3⟩ := hx.old _ _ hy'
        have hsub : Sub ((sk h).modify l.pl.toNat fun x => { x with to := (endV l i).to }) ((walkT t 0 (dueS [])).map Sp.v) := fun j y hy => by obtain ⟨z, g1, g2, _⟩ := hx.old j y hy; exact ⟨z, g1, g2⟩
        refine ⟨r.length, l.pl.toNat, x, hk.1.2.1, (hled.mono (sub_modify _ _ _)).mono hsub, hx1, ⟨hx2.kd.trans ey.kd, hx2.fr.trans ey.fr, hx2.dp.trans ey.dp, hx2.up.trans ey.up, hx2.nt.trans ey.nt, hx2.ky.trans ey.ky⟩, hx3 (by show (i : Int) + 1 ≠ 0; omega), fun _ n' k' hpk j z hj hz hst => ?_⟩
        show False
        by_cases hjl : j < ((sk h).modify l.pl.toNat fun x => { x with to := (endV l i).to }).length
        · obtain ⟨z', hz', ez, _⟩ := hx.old j _ (List.getElem?_eq_getElem hjl)
          obtain rfl := Option.some.inj (hz.symm.trans hz')
          exact (hno.mono (modify_sub _ _ _)) n' k' hpk j _ hj (List.getElem?_eq_getElem hjl) (hst.eq ez.symm)
        · have hzu : z.up = (l.pl.toNat : Int) := hst.1
          have hzu' : z.up = l.pl := by omega
          rcases hx.new j z (by omega) hz with (g | ⟨l2, hl2m, g⟩) | g
          · omega
          · have hl2m' : l2 ∈ r := hl2m
            obtain ⟨s1, s2, rfl⟩ := List.append_of_mem hl2m'
            have := LK.lt (u := l :: s1) hk l (by simp)
            omega
          · rw [List.length_modify] at g
            omega
      · rw [e] at hg'; cases hg'
  | vbad hr hz hv => exact absurd (bad (.vbad hr.free hz hv)) hz
  | pbad hr hb hp =>
    have e := bad (.pbad hr.free hb hp)
    subst e
    rcases hp.2 with ⟨_, e, _⟩ | ⟨_, ⟨_, _, e, _⟩ | ⟨_, _, _, _, _, e, _⟩⟩
    · cases e
    · exact absurd rfl e
    · cases e
  | trail hr hi => exact absurd (bad (.trail hr.free hi)) (by decide)
  | done hr hi =>
    rcases hr.fi hlim with ⟨_, e⟩ | ⟨u, l, r, e, _⟩
    · cases e
    · have := congrArg List.length e
      simp [RS.ls] at this
end Go.Proofs.YtdlnnnlmlaploaaDoor
namespace Go.Proofs.YtdlnnnlmlaploaaDoor
open Go.RowKit Go.Deep
/-! ### The reference's Info -/
theorem dout_mk {b : List UInt8} {t : T} {k : Nat} (h : DOUT b t k 0) : ∃ y, (SL t 0)[0]? = some y := by
  obtain ⟨h1, _, _⟩ := dout_txt h
  cases t with
  | no =>
    have hb : b = [] := h1
    subst hb
    rcases h with ⟨_, _, _, n, hr, _⟩ | ⟨_, ⟨e, _⟩ | ⟨hr, _⟩ | ⟨_, _, e⟩⟩
    · have hr2 : Run [] (.go [] 0) (.bad 0 21) := Run.one rfl
      have := hr.unique hr2 trivial trivial
      cases this
    · cases e
    · have := run_er hr; omega
    · cases e
  | mk k n s ln l dn ky dv => exact ⟨_, rfl⟩
/-- the word info -/
def kInfo : ByteArray := { data := #[105, 110, 102, 111] }
/-- what Info answers of a list of spans -/
def INL (l : List Vi) (fr to er : Int) : Prop :=
  ∃ y, l[0]? = some y ∧ ((y.kd ≠ 4 ∧ fr = 0 ∧ to = 0 ∧ er = 32) ∨ (y.kd = 4 ∧
    ((fr = 0 ∧ to = 0 ∧ er = 30 ∧ ∀ j x, 0 < j → l[j]? = some x → ¬ stM 4 0 0 kInfo x) ∨
     ∃ r x, 0 < r ∧ l[r]? = some x ∧ stM 4 0 0 kInfo x ∧ (∀ j z, 0 < j → j < r → l[j]? = some z → ¬ stM 4 0 0 kInfo z) ∧
      ((x.kd ≠ 4 ∧ fr = 0 ∧ to = 0 ∧ er = 32) ∨ (x.kd = 4 ∧ fr = x.fr ∧ to = x.to ∧ er = 0)))))
/-- what Info answers -/
def INF (b : List UInt8) (fr to er : Int) : Prop := ∃ t k e0, DOUT b t k e0 ∧ ((e0 ≠ 0 ∧ fr = 0 ∧ to = 0 ∧ er = e0) ∨ (e0 = 0 ∧ INL (SL t 0) fr to er))
theorem built34 (k : ByteArray) : Tryd.prog.built 34 [(1, .string k)] = some #[.int .i64 0, .string k] := by kernel_rfl
set_option maxRecDepth 10000 in
set_option maxHeartbeats 2000000 in
theorem info17 (v : Value) (b : List UInt8) (w : World) (hr : RB w v b) (hl0 : b.length ≤ 140737488351232) (hT : TB w.heap.size w) :
    Calls Tryd.prog 17 #[v] w fun e w' => ∃ fr to er, e = .returned (.tuple #[.int .i64 fr, .int .i64 to, .int .i64 er]) ∧ INF b fr to er ∧ Below w.heap.size w w' := by
  have HR := Lib.hid (And.intro hr hT)
  obtain ⟨a, c, rfl, _⟩ := hr
  clear hT
  go_enter Tryd.func17, Tryd.ntmps17
  go_wp2_with fail
  refine (skim15 _ b _ HR.out.1 hl0 HR.out.2).mono ?_
  rintro e w2 ⟨sv, k, er, rfl, hsk, hb2⟩
  obtain ⟨t, hd, hrs, hlen⟩ := hsk.rsp
  have HD := Lib.hid (And.intro hd hb2)
  clear hsk hb2 HR
  by_cases he : er = 0
  · subst he
    obtain ⟨y, hy⟩ := dout_mk hd
    have hlen2 : (SL t 0).length ≤ 1048576 := by
      obtain ⟨h1, h2, h3⟩ := dout_txt hd
      have hw := walk_len t 0 (dueS []) (vt_of_wk t _ h2.1)
      rw [← h1] at hw
      have e : SL t 0 = (walkT t 0 (dueS [])).map Sp.v := if_pos rfl
      rw [e, List.length_map]
      omega
    have hpos : 0 < (SL t 0).length := (List.getElem?_eq_some_iff.1 hy).1
    have HST := Lib.hid (step31 sv (SL t 0) w2 0 0 kInfo (by omega) hpos hrs)
    have HRS := Lib.hid hrs
    have HY := Lib.hid hy
    generalize hLL : SL t 0 = L at *
    have HLL := Lib.hid hLL
    obtain ⟨sa, sc, rfl, hcell⟩ := hrs
    rcases hcell with h0 | ⟨g, rfl, hg, hcell⟩
    · rw [h0] at hpos; simp at hpos
    obtain ⟨ykd, yfr, yto, ydp, yup, ynt, yky, ypl, yfi⟩ := y
    obtain ⟨s0, _⟩ := hcell 0 _ hy
    have s0' : w2.cell? ⟨g, 0, none⟩ = some (.int .i64 ykd) := by simpa using s0
    have HP := Lib.hid hpos
    have n0 : (0 : Int) < (L.length : Int) := by omega
    clear hd hlen hy hcell s0 hLL hg hpos
    by_cases hk : ykd = 4
    · subst hk
      go_wp2_with fail
      refine HST.out.mono ?_
      rintro e w3 ⟨r, er, rfl, hst, hb3⟩
      obtain ⟨y', hy', hst⟩ := hst
      obtain rfl := Option.some.inj (HY.out.symm.trans hy')
      have HB : Hid (Below w.heap.size w w3) := HD.out.2.trans (hb3.mono HD.out.2.size)
      rcases hst with ⟨hno, _⟩ | ⟨_, ⟨rfl, hr0, ⟨⟨xkd, xfr, xto, xdp, xup, xnt, xky, xpl, xfi⟩, hx, hxm⟩, hno⟩ | ⟨rfl, rfl, hno⟩⟩
      · exact absurd (.inr rfl) hno
      · have hrs3 := HRS.out.keep hb3
        obtain ⟨sa3, sc3, e3, hcell⟩ := hrs3
        cases e3
        rcases hcell with h0 | ⟨g3, e3, hg, hcell⟩
        · have := HP.out; rw [h0] at this; simp at this
        cases e3
        obtain ⟨x0, x1, x2, _⟩ := hcell r _ hx
        have r1 : r < L.length := (List.getElem?_eq_some_iff.1 hx).1
        have r0i : (0 : Int) ≤ (r : Int) := by omega
        have r1i : (r : Int) < (L.length : Int) := by omega
        have HX := Lib.hid (And.intro hx (And.intro hxm hno))
        clear hcell hx hxm hno hy' hb3 HST hg s0'
        by_cases hxk : xkd = 4
        · subst hxk
          go_wp2
          go_quiet (fail)
          go_wp2
          go_ret3
          exact ⟨xfr, xto, 0, rfl, ⟨t, k, 0, HD.out.1, .inr ⟨rfl, by rw [HLL.out]; exact ⟨_, HY.out, .inr ⟨rfl, .inr ⟨r, _, hr0, HX.out.1, HX.out.2.1, HX.out.2.2, .inr ⟨rfl, rfl, rfl, rfl⟩⟩⟩⟩⟩⟩, ⟨HB.out.os, HB.out.tape, HB.out.output, HB.out.size, HB.out.block⟩⟩
        · have hxk' : (xkd != 4) = true := by simpa using hxk
          go_wp2
          go_ret3
          exact ⟨0, 0, 32, rfl, ⟨t, k, 0, HD.out.1, .inr ⟨rfl, by rw [HLL.out]; exact ⟨_, HY.out, .inr ⟨rfl, .inr ⟨r, _, hr0, HX.out.1, HX.out.2.1, HX.out.2.2, .inl ⟨hxk, rfl, rfl, rfl⟩⟩⟩⟩⟩⟩, HB.out⟩
      · have HX := Lib.hid hno
        clear hno hy' hb3 HST
        go_wp2
        go_ret3
        exact ⟨0, 0, 30, rfl, ⟨t, k, 0, HD.out.1, .inr ⟨rfl, by rw [HLL.out]; exact ⟨_, HY.out, .inr ⟨rfl, .inl ⟨rfl, rfl, rfl, HX.out⟩⟩⟩⟩⟩, HB.out⟩
    · have hk' : (ykd != 4) = true := by simpa using hk
      clear HST
      go_wp2
      go_ret3
      exact ⟨0, 0, 32, rfl, ⟨t, k, 0, HD.out.1, .inr ⟨rfl, by rw [HLL.out]; exact ⟨_, HY.out, .inl ⟨hk, rfl, rfl, rfl⟩⟩⟩⟩, HD.out.2⟩
  · have he' : (er != 0) = true := by simpa using he
    clear hd hrs hlen
    go_wp2
    go_ret3
    exact ⟨0, 0, er, rfl, ⟨t, k, er, HD.out.1, .inl ⟨he, rfl, rfl, rfl⟩⟩, HD.out.2⟩
end Go.Proofs.YtdlnnnlmlaploaaDoor
namespace Go.Proofs.YtdlnnnlmlaploaaDoor
open Go.RowKit Go.Deep
/-- what follow answers besides -/
def fwR (n : Int) (q : Vi) : Int := if q.dp = n then 0 else if nestB q = true then 30 else 31
/-- what the program's Info answers -/
def INP (b : List UInt8) (fr to er : Int) : Prop := ∃ t k e0, DOUT b t k e0 ∧ ((e0 ≠ 0 ∧ fr = 0 ∧ to = 0 ∧ er = e0) ∨ (e0 = 0 ∧ ∃ h0 p0 f0, Fin b (goF []) h0 p0 f0 ∧
  ((fwR 0 (fwF [] h0).1 ≠ 0 ∧ fr = 0 ∧ to = 0 ∧ er = fwR 0 (fwF [] h0).1) ∨ (fwR 0 (fwF [] h0).1 = 0 ∧ (((fwF [] h0).1.kd ≠ 4 ∧ fr = 0 ∧ to = 0 ∧ er = 32) ∨ ((fwF [] h0).1.kd = 4 ∧
    ∃ h1 p1 f1, Fin b (goF [(0, kInfo)]) h1 p1 f1 ∧ ((fwR 1 (fwF [(0, kInfo)] h1).1 ≠ 0 ∧ fr = 0 ∧ to = 0 ∧ er = fwR 1 (fwF [(0, kInfo)] h1).1) ∨ (fwR 1 (fwF [(0, kInfo)] h1).1 = 0 ∧
      (((fwF [(0, kInfo)] h1).1.kd ≠ 4 ∧ fr = 0 ∧ to = 0 ∧ er = 32) ∨ ((fwF [(0, kInfo)] h1).1.kd = 4 ∧ fr = (fwF [(0, kInfo)] h1).1.fr ∧ to = (fwF [(0, kInfo)] h1).1.to ∧ er = 0))))))))))
set_option maxRecDepth 10000 in
set_option maxHeartbeats 1000000 in
theorem info12 (a : Option Addr) (c : Nat) (b : List UInt8) (w : World) (hr : RB w (.slice a b.length c) b) (hev : EVw w) :
    Calls Tryd.prog 12 #[.slice a b.length c] w fun e w' => ∃ fr to er, e = .returned (.tuple #[.int .i64 fr, .int .i64 to, .int .i64 er]) ∧ INP b fr to er ∧ Below w.heap.size w w' := by
  have HC := Lib.hid (find19 a c b w none 0 0 [] hr hev ⟨none, 0, rfl, .inl rfl⟩ (by simp))
  have HR := Lib.hid (And.intro hr hev)
  clear hr hev
  go_enter Tryd.func12, Tryd.ntmps12
  go_wp2_with fail
  refine HC.out.mono ?_
  rintro e w1 ⟨t, k, er, hd, hb1, hcase⟩
  have HD := Lib.hid hd
  have HB := Lib.hid hb1
  clear HC
  rcases hcase with ⟨he, rfl⟩ | ⟨rfl, h0, p0, f0, hF0, rfl⟩
  · have he' : (er != 0) = true := by simpa using he
    clear hd hb1 HR
    go_wp2
    go_ret3
    exact ⟨0, 0, er, rfl, ⟨t, k, er, HD.out, .inl ⟨he, rfl, rfl, rfl⟩⟩, HB.out.alloc HB.out.size _⟩
  · have HF0 := Lib.hid hF0
    obtain ⟨⟨qkd, qfr, qto, qdp, qup, qnt, qky, qpl, qfi⟩, hq⟩ : ∃ q, (fwF [] h0).1 = q := ⟨_, rfl⟩
    have HQ := Lib.hid hq
    rw [hq]
    have HE : Hid ((if (⟨qkd, qfr, qto, qdp, qup, qnt, qky, qpl, qfi⟩ : Vi).dp = ((0 : Nat) : Int) then (0 : Int) else if nestB (⟨qkd, qfr, qto, qdp, qup, qnt, qky, qpl, qfi⟩ : Vi) = true then 30 else 31) = fwR 0 (⟨qkd, qfr, qto, qdp, qup, qnt, qky, qpl, qfi⟩ : Vi)) := rfl
    generalize (if (⟨qkd, qfr, qto, qdp, qup, qnt, qky, qpl, qfi⟩ : Vi).dp = ((0 : Nat) : Int) then (0 : Int) else if nestB (⟨qkd, qfr, qto, qdp, qup, qnt, qky, qpl, qfi⟩ : Vi) = true then 30 else 31) = E at *
    have hl : b.length ≤ 1048576 := (dout_txt hd).2.2
    have HL := Lib.hid hl
    clear hd hF0 hq hl hb1
    by_cases hE : E = 0
    · subst hE
      replace HE : Hid (fwR 0 (⟨qkd, qfr, qto, qdp, qup, qnt, qky, qpl, qfi⟩ : Vi) = 0) := HE.out.symm
      by_cases hk : qkd = 4
      · subst hk
        have b1 : Below w.heap.size w (w1.alloc (Obj.cells #[.int .i64 4, .int .i64 qfr, .int .i64 qto, .int .i64 qdp, .int .i64 qup, .int .i64 qnt, .string qky, .int .i64 qpl, .int .i64 qfi] 47)) := HB.out.alloc HB.out.size _
        have b2 : Below w.heap.size w ((w1.alloc (Obj.cells #[.int .i64 4, .int .i64 qfr, .int .i64 qto, .int .i64 qdp, .int .i64 qup, .int .i64 qnt, .string qky, .int .i64 qpl, .int .i64 qfi] 47)).alloc (Obj.cells #[.int .i64 0, .string kInfo] 34)) := b1.alloc b1.size _
        have b12 : Below w1.heap.size w1 ((w1.alloc (Obj.cells #[.int .i64 4, .int .i64 qfr, .int .i64 qto, .int .i64 qdp, .int .i64 qup, .int .i64 qnt, .string qky, .int .i64 qpl, .int .i64 qfi] 47)).alloc (Obj.cells #[.int .i64 0, .string kInfo] 34)) := ((Below.refl _ _).alloc (Nat.le_refl _) _).alloc (by simp) _
        have hsz : (w1.alloc (Obj.cells #[.int .i64 4, .int .i64 qfr, .int .i64 qto, .int .i64 qdp, .int .i64 qup, .int .i64 qnt, .string qky, .int .i64 qpl, .int .i64 qfi] 47)).heap.size = w1.heap.size + 1 := by simp
        have o1 : blk (w1.alloc (Obj.cells #[.int .i64 4, .int .i64 qfr, .int .i64 qto, .int .i64 qdp, .int .i64 qup, .int .i64 qnt, .string qky, .int .i64 qpl, .int .i64 qfi] 47)) w1.heap.size 47 #[.int .i64 4, .int .i64 qfr, .int .i64 qto, .int .i64 qdp, .int .i64 qup, .int .i64 qnt, .string qky, .int .i64 qpl, .int .i64 qfi] := heap_new _ _
        have o1' : blk ((w1.alloc (Obj.cells #[.int .i64 4, .int .i64 qfr, .int .i64 qto, .int .i64 qdp, .int .i64 qup, .int .i64 qnt, .string qky, .int .i64 qpl, .int .i64 qfi] 47)).alloc (Obj.cells #[.int .i64 0, .string kInfo] 34)) w1.heap.size 47 #[.int .i64 4, .int .i64 qfr, .int .i64 qto, .int .i64 qdp, .int .i64 qup, .int .i64 qnt, .string qky, .int .i64 qpl, .int .i64 qfi] := o1.keep (((Below.refl _ _).alloc (Nat.le_refl _) _ : Below (w1.alloc (Obj.cells #[.int .i64 4, .int .i64 qfr, .int .i64 qto, .int .i64 qdp, .int .i64 qup, .int .i64 qnt, .string qky, .int .i64 qpl, .int .i64 qfi] 47)).heap.size _ _).block _ o1.lt)
        have o2 : blk ((w1.alloc (Obj.cells #[.int .i64 4, .int .i64 qfr, .int .i64 qto, .int .i64 qdp, .int .i64 qup, .int .i64 qnt, .string qky, .int .i64 qpl, .int .i64 qfi] 47)).alloc (Obj.cells #[.int .i64 0, .string kInfo] 34)) (w1.heap.size + 1) 34 #[.int .i64 0, .string kInfo] := by
          have h := heap_new (w1.alloc (Obj.cells #[.int .i64 4, .int .i64 qfr, .int .i64 qto, .int .i64 qdp, .int .i64 qup, .int .i64 qnt, .string qky, .int .i64 qpl, .int .i64 qfi] 47)) (Obj.cells #[.int .i64 0, .string kInfo] 34)
          rw [hsz] at h
          exact h
        have hP : PSA ((w1.alloc (Obj.cells #[.int .i64 4, .int .i64 qfr, .int .i64 qto, .int .i64 qdp, .int .i64 qup, .int .i64 qnt, .string qky, .int .i64 qpl, .int .i64 qfi] 47)).alloc (Obj.cells #[.int .i64 0, .string kInfo] 34)).heap.size ((w1.alloc (Obj.cells #[.int .i64 4, .int .i64 qfr, .int .i64 qto, .int .i64 qdp, .int .i64 qup, .int .i64 qnt, .string qky, .int .i64 qpl, .int .i64 qfi] 47)).alloc (Obj.cells #[.int .i64 0, .string kInfo] 34)) (.slice (some ⟨w1.heap.size + 1, 0, none⟩) 1 1) [(0, kInfo)] := ⟨_, 1, rfl, .inr ⟨_, 0, rfl, o2.lt, fun i n k hi => by
          match i, hi with
          | 0, hi => simp at hi; obtain ⟨rfl, rfl⟩ := hi; exact ⟨o2.cell 0, o2.cell 1⟩⟩⟩
        have HC2 := Lib.hid (follow22 a c b ((w1.alloc (Obj.cells #[.int .i64 4, .int .i64 qfr, .int .i64 qto, .int .i64 qdp, .int .i64 qup, .int .i64 qnt, .string qky, .int .i64 qpl, .int .i64 qfi] 47)).alloc (Obj.cells #[.int .i64 0, .string kInfo] 34)) (some ⟨w1.heap.size + 1, 0, none⟩) 1 1 [(0, kInfo)] (HR.out.1.keep b2) (HR.out.2.keep b2) HL.out hP (by simp))
        have H2 := Lib.hid (And.intro b2 o1')
        clear b1 b2 b12 o1 o1' o2 hP hsz
        go_wp2_with fail
        refine HC2.out.mono ?_
        rintro e w3 ⟨h1, p1, f1, hF1, hb3, rfl⟩
        have HF1 := Lib.hid hF1
        have H3 : Hid (Below w.heap.size w w3 ∧ blk w3 w1.heap.size 47 #[.int .i64 4, .int .i64 qfr, .int .i64 qto, .int .i64 qdp, .int .i64 qup, .int .i64 qnt, .string qky, .int .i64 qpl, .int .i64 qfi]) := by
          obtain ⟨q1, q2⟩ := H2.out
          exact ⟨q1.trans (hb3.mono q1.size), q2.keep (hb3.block _ q2.lt)⟩
        obtain ⟨⟨rkd, rfr, rto, rdp, rup, rnt, rky, rpl, rfi⟩, hq1⟩ : ∃ q, (fwF [(0, kInfo)] h1).1 = q := ⟨_, rfl⟩
        have HQ1 := Lib.hid hq1
        rw [hq1]
        have HE1 : Hid ((if (⟨rkd, rfr, rto, rdp, rup, rnt, rky, rpl, rfi⟩ : Vi).dp = ((1 : Nat) : Int) then (0 : Int) else if nestB (⟨rkd, rfr, rto, rdp, rup, rnt, rky, rpl, rfi⟩ : Vi) = true then 30 else 31) = fwR 1 (⟨rkd, rfr, rto, rdp, rup, rnt, rky, rpl, rfi⟩ : Vi)) := rfl
        generalize (if (⟨rkd, rfr, rto, rdp, rup, rnt, rky, rpl, rfi⟩ : Vi).dp = ((1 : Nat) : Int) then (0 : Int) else if nestB (⟨rkd, rfr, rto, rdp, rup, rnt, rky, rpl, rfi⟩ : Vi) = true then 30 else 31) = E1 at *
        have HV : Hid (w.heap.size ≤ w1.heap.size) := HB.out.size
        generalize w1.heap.size = Vb at *
        clear HC2 hF1 hb3 hq1 H2
        by_cases hE1 : E1 = 0
        · subst hE1
          replace HE1 : Hid (fwR 1 (⟨rkd, rfr, rto, rdp, rup, rnt, rky, rpl, rfi⟩ : Vi) = 0) := HE1.out.symm
          by_cases hk1 : rkd = 4
          · subst hk1
            have i47 : (Tryd.prog.info? 47).map (·.size) = some (Vi.cs (⟨4, rfr, rto, rdp, rup, rnt, rky, rpl, rfi⟩ : Vi)).size := info47s
            have R2 : Hid (Besides Vb w3 (w3.setRow Vb (Vi.cs (⟨4, rfr, rto, rdp, rup, rnt, rky, rpl, rfi⟩ : Vi))) ∧ blk (w3.setRow Vb (Vi.cs (⟨4, rfr, rto, rdp, rup, rnt, rky, rpl, rfi⟩ : Vi))) Vb 47 (Vi.cs (⟨4, rfr, rto, rdp, rup, rnt, rky, rpl, rfi⟩ : Vi))) := ⟨besides_row .., blk_row H3.out.2 _⟩
            go_wp2_with (first | (refine wpList_store_row rfl 47 _ _ rfl Vb (Vi.cs (⟨4, rfr, rto, rdp, rup, rnt, rky, rpl, rfi⟩ : Vi)) rfl rfl 47 _ H3.out.2 i47 rfl (cs_one _) ?_; (obtain ⟨d0, d1, d2, d3, d4, d5, d6, d7, d8⟩ := R2.out.2.cells9; generalize w3.setRow Vb (Vi.cs (⟨4, rfr, rto, rdp, rup, rnt, rky, rpl, rfi⟩ : Vi)) = w4 at *)))
            go_wp2
            go_quiet (fail)
            go_wp2
            go_ret3
            have hb := H3.out.1
            have y1 := R2.out.1
            refine ⟨_, _, _, rfl, ⟨t, k, 0, HD.out, .inr ⟨rfl, h0, p0, f0, HF0.out, .inr ?_⟩⟩, ⟨y1.os.trans hb.os, y1.tape.trans hb.tape, y1.output.trans hb.output, Nat.le_trans hb.size y1.size, fun k hk => (y1.block k (Nat.lt_of_lt_of_le hk hb.size) (by have := HV.out; omega)).trans (hb.block k hk)⟩⟩
            refine ⟨by rw [HQ.out]; exact HE.out, .inr ⟨by rw [HQ.out], h1, p1, f1, HF1.out, ?_⟩⟩
            rw [HQ1.out]; exact .inr ⟨HE1.out, .inr ⟨rfl, rfl, rfl, rfl⟩⟩
          · have hk1' : (rkd != 4) = true := by simpa using hk1
            have i47 : (Tryd.prog.info? 47).map (·.size) = some (Vi.cs (⟨rkd, rfr, rto, rdp, rup, rnt, rky, rpl, rfi⟩ : Vi)).size := info47s
            have R2 : Hid (Besides Vb w3 (w3.setRow Vb (Vi.cs (⟨rkd, rfr, rto, rdp, rup, rnt, rky, rpl, rfi⟩ : Vi))) ∧ blk (w3.setRow Vb (Vi.cs (⟨rkd, rfr, rto, rdp, rup, rnt, rky, rpl, rfi⟩ : Vi))) Vb 47 (Vi.cs (⟨rkd, rfr, rto, rdp, rup, rnt, rky, rpl, rfi⟩ : Vi))) := ⟨besides_row .., blk_row H3.out.2 _⟩
            go_wp2_with (first | (refine wpList_store_row rfl 47 _ _ rfl Vb (Vi.cs (⟨rkd, rfr, rto, rdp, rup, rnt, rky, rpl, rfi⟩ : Vi)) rfl rfl 47 _ H3.out.2 i47 rfl (cs_one _) ?_; (obtain ⟨d0, d1, d2, d3, d4, d5, d6, d7, d8⟩ := R2.out.2.cells9; generalize w3.setRow Vb (Vi.cs (⟨rkd, rfr, rto, rdp, rup, rnt, rky, rpl, rfi⟩ : Vi)) = w4 at *)))
            go_wp2
            go_ret3
            have hb := H3.out.1
            have y1 := R2.out.1
            refine ⟨_, _, _, rfl, ⟨t, k, 0, HD.out, .inr ⟨rfl, h0, p0, f0, HF0.out, .inr ?_⟩⟩, ⟨y1.os.trans hb.os, y1.tape.trans hb.tape, y1.output.trans hb.output, Nat.le_trans hb.size y1.size, fun k hk => (y1.block k (Nat.lt_of_lt_of_le hk hb.size) (by have := HV.out; omega)).trans (hb.block k hk)⟩⟩
            refine ⟨by rw [HQ.out]; exact HE.out, .inr ⟨by rw [HQ.out], h1, p1, f1, HF1.out, ?_⟩⟩
            rw [HQ1.out]; exact .inr ⟨HE1.out, .inl ⟨hk1, rfl, rfl, rfl⟩⟩
        · have hE1' : (E1 != 0) = true := by simpa using hE1
          have i47 : (Tryd.prog.info? 47).map (·.size) = some (Vi.cs (⟨rkd, rfr, rto, rdp, rup, rnt, rky, rpl, rfi⟩ : Vi)).size := info47s
          have R2 : Hid (Besides Vb w3 (w3.setRow Vb (Vi.cs (⟨rkd, rfr, rto, rdp, rup, rnt, rky, rpl, rfi⟩ : Vi))) ∧ blk (w3.setRow Vb (Vi.cs (⟨rkd, rfr, rto, rdp, rup, rnt, rky, rpl, rfi⟩ : Vi))) Vb 47 (Vi.cs (⟨rkd, rfr, rto, rdp, rup, rnt, rky, rpl, rfi⟩ : Vi))) := ⟨besides_row .., blk_row H3.out.2 _⟩
          go_wp2_with (first | (refine wpList_store_row rfl 47 _ _ rfl Vb (Vi.cs (⟨rkd, rfr, rto, rdp, rup, rnt, rky, rpl, rfi⟩ : Vi)) rfl rfl 47 _ H3.out.2 i47 rfl (cs_one _) ?_; (obtain ⟨d0, d1, d2, d3, d4, d5, d6, d7, d8⟩ := R2.out.2.cells9; generalize w3.setRow Vb (Vi.cs (⟨rkd, rfr, rto, rdp, rup, rnt, rky, rpl, rfi⟩ : Vi)) = w4 at *)))
          go_wp2
          go_ret3
          have hb := H3.out.1
          have y1 := R2.out.1
          refine ⟨_, _, _, rfl, ⟨t, k, 0, HD.out, .inr ⟨rfl, h0, p0, f0, HF0.out, .inr ?_⟩⟩, ⟨y1.os.trans hb.os, y1.tape.trans hb.tape, y1.output.trans hb.output, Nat.le_trans hb.size y1.size, fun k hk => (y1.block k (Nat.lt_of_lt_of_le hk hb.size) (by have := HV.out; omega)).trans (hb.block k hk)⟩⟩
          refine ⟨by rw [HQ.out]; exact HE.out, .inr ⟨by rw [HQ.out], h1, p1, f1, HF1.out, ?_⟩⟩
          rw [HQ1.out, ← HE1.out]; exact .inl ⟨hE1, rfl, rfl, rfl⟩
      · have hk' : (qkd != 4) = true := by simpa using hk
        go_wp2
        go_ret3
        exact ⟨0, 0, 32, rfl, ⟨t, k, 0, HD.out, .inr ⟨rfl, h0, p0, f0, HF0.out, .inr ⟨by rw [HQ.out]; exact HE.out, .inl ⟨by rw [HQ.out]; exact hk, rfl, rfl, rfl⟩⟩⟩⟩, HB.out.alloc HB.out.size _⟩
    · have hE' : (E != 0) = true := by simpa using hE
      go_wp2
      go_ret3
      exact ⟨0, 0, E, rfl, ⟨t, k, 0, HD.out, .inr ⟨rfl, h0, p0, f0, HF0.out, .inl (by rw [HQ.out, ← HE.out]; exact ⟨hE, rfl, rfl, rfl⟩)⟩⟩, HB.out.alloc HB.out.size _⟩
end Go.Proofs.YtdlnnnlmlaploaaDoor
namespace Go.Proofs.YtdlnnnlmlaploaaDoor
/-! ### Both Infos answer the same: plain -/
theorem Led.zero {p : List (Int × ByteArray)} {L : List Vi} {r : Nat} (h : Led p L 0 r) : r = 0 := by cases h; rfl
theorem Led.one {n : Int} {k : ByteArray} {L : List Vi} {r : Nat} (h : Led [(n, k)] L 1 r) {y : Vi} (hy : L[0]? = some y) : 0 < r ∧ ∃ x, L[r]? = some x ∧ stM y.kd 0 n k x ∧ ∀ (j : Nat) (z : Vi), 0 < j → j < r → L[j]? = some z → ¬ stM y.kd 0 n k z := by
  cases h with
  | next h0 h1 h2 h3 h4 h5 h6 h7 =>
    have e := h0.zero
    subst e
    obtain rfl := Option.some.inj (hy.symm.trans h2)
    simp only [List.getElem?_cons_zero, Option.some.injEq, Prod.mk.injEq] at h1
    obtain ⟨rfl, rfl⟩ := h1
    exact ⟨h4, _, h5, h6, h7⟩
theorem info_same {b : List UInt8} {fr to er fr' to' er' : Int} (h : INP b fr to er) (h' : INF b fr' to' er') : fr = fr' ∧ to = to' ∧ er = er' := by
  obtain ⟨t, k, e0, hd, h⟩ := h
  obtain ⟨t', k', e0', hd', h'⟩ := h'
  obtain ⟨rfl, rfl, rfl⟩ := DOUT.unique hd hd'
  rcases h with ⟨he, rfl, rfl, rfl⟩ | ⟨rfl, h0, p0, f0, hF0, h⟩
  · rcases h' with ⟨_, rfl, rfl, rfl⟩ | ⟨e, _⟩
    · exact ⟨rfl, rfl, rfl⟩
    · exact absurd e he
  rcases h' with ⟨e, _⟩ | ⟨_, y, hy, h'⟩
  · exact absurd rfl e
  have hlim : b.length ≤ 1048576 := (dout_txt hd).2.2
  have eSL : SL t 0 = (walkT t 0 (dueS [])).map Sp.v := if_pos rfl
  rw [eSL] at hy h'
  obtain ⟨d, r, x, g⟩ := hF0.led hlim hd
  have hd0 : d = 0 := Nat.le_zero.1 g.led.le
  subst hd0
  have hr0 := g.led.zero
  subst hr0
  obtain rfl := Option.some.inj (hy.symm.trans g.at')
  have hkd : y.kd = (fwF [] h0).1.kd := g.eq.kd
  have hR : fwR 0 (fwF [] h0).1 = 0 := if_pos g.dp
  rcases h with ⟨e, _⟩ | ⟨_, h⟩
  · exact absurd hR e
  rcases h with ⟨hk, rfl, rfl, rfl⟩ | ⟨hk, h1, p1, f1, hF1, h⟩
  · rcases h' with ⟨_, rfl, rfl, rfl⟩ | ⟨e, _⟩
    · exact ⟨rfl, rfl, rfl⟩
    · exact absurd (hkd.symm.trans e) hk
  rcases h' with ⟨e, _⟩ | ⟨hy4, h'⟩
  · exact absurd (hkd.trans hk) e
  obtain ⟨d, r, x, g1⟩ := hF1.led hlim hd
  have hd1 : d ≤ 1 := g1.led.le
  match d, hd1, g1 with
  | 0, _, g1 =>
    have hr0 := g1.led.zero
    subst hr0
    obtain rfl := Option.some.inj (hy.symm.trans g1.at')
    have hq4 : (fwF [(0, kInfo)] h1).1.kd = 4 := g1.eq.kd.symm.trans hy4
    have hR1 : fwR 1 (fwF [(0, kInfo)] h1).1 = 30 := by
      unfold fwR
      rw [if_neg (by rw [g1.dp]; decide), if_pos (by unfold nestB; rw [hq4]; rfl)]
    rw [hR1] at h
    rcases h with ⟨_, rfl, rfl, rfl⟩ | ⟨e, _⟩
    · rcases h' with ⟨rfl, rfl, rfl, _⟩ | ⟨r, x, hr, hx, hm, _⟩
      · exact ⟨rfl, rfl, rfl⟩
      · have := g1.no (.inr hq4) 0 kInfo rfl r x hr hx
        rw [hq4] at this
        exact absurd hm this
    · cases e
  | 1, _, g1 =>
    obtain ⟨hr, x', hx', hm, hfirst⟩ := g1.led.one hy
    rw [hy4] at hm hfirst
    obtain rfl := Option.some.inj (hx'.symm.trans g1.at')
    have hR1 : fwR 1 (fwF [(0, kInfo)] h1).1 = 0 := if_pos g1.dp
    rw [hR1] at h
    rcases h with ⟨e, _⟩ | ⟨_, h⟩
    · exact absurd rfl e
    rcases h' with ⟨_, _, _, hno⟩ | ⟨r2, x2, hr2, hx2, hm2, hfirst2, h'⟩
    · exact absurd hm (hno r x' hr hx')
    have er : r2 = r := by
      rcases Nat.lt_trichotomy r2 r with hlt | rfl | hlt
      · exact absurd hm2 (hfirst r2 x2 hr2 hlt hx2)
      · rfl
      · exact absurd hm (hfirst2 r x' hr hlt hx')
    subst er
    obtain rfl := Option.some.inj (hx2.symm.trans hx')
    have e1 : x2.kd = (fwF [(0, kInfo)] h1).1.kd := g1.eq.kd
    have e2 : x2.fr = (fwF [(0, kInfo)] h1).1.fr := g1.eq.fr
    have e3 : x2.to = (fwF [(0, kInfo)] h1).1.to := g1.to
    rcases h with ⟨hk1, rfl, rfl, rfl⟩ | ⟨hk1, rfl, rfl, rfl⟩
    · rcases h' with ⟨_, rfl, rfl, rfl⟩ | ⟨e, _⟩
      · exact ⟨rfl, rfl, rfl⟩
      · exact absurd (e1.symm.trans e) hk1
    · rcases h' with ⟨e, _⟩ | ⟨_, rfl, rfl, rfl⟩
      · exact absurd (e1.trans hk1) e
      · exact ⟨e2.symm, e3.symm, rfl⟩
end Go.Proofs.YtdlnnnlmlaploaaDoor
namespace Go.Proofs.YtdlnnnlmlaploaaDoor
open Go.RowKit Go.Deep
set_option maxRecDepth 10000 in
set_option maxHeartbeats 2000000 in
theorem infos6 (v : Value) (b : List UInt8) (w : World) (hr : RB w v b) (hs : v = .slice none 0 0 ∨ ∃ ad n c, v = .slice (some ad) n c) (hl : b.length ≤ 140737488351232) (hev : EVw w) (hT : TB w.heap.size w) :
    Calls Tryd.prog 6 #[v] w fun e w' => e = .returned (.bool true) ∧ Below w.heap.size w w' := by
  have HR := Lib.hid (And.intro hr (And.intro hs (And.intro hev hT)))
  obtain ⟨a, c, rfl, _⟩ := hr
  clear hs hev hT
  go_enter Tryd.func6, Tryd.ntmps6
  go_wp2_with fail
  refine (twin13 _ b w HR.out.1 HR.out.2.1 hl).mono ?_
  rintro e w1 ⟨v1, rfl, ho, hb1⟩
  obtain ⟨a1, c1, rfl⟩ := ho.form'
  have HO : Hid (RB w1 (.slice a1 b.length c1) b ∧ RB w1 (.slice a b.length c) b ∧ EVw w1 ∧ TB w1.heap.size w1 ∧ Below w.heap.size w w1) := ⟨ho.rb, HR.out.1.keep hb1, HR.out.2.2.1.keep hb1, tb_up (HR.out.2.2.2.on hb1) hb1.size, hb1⟩
  clear ho hb1 HR
  go_wp2_with fail
  refine (info12 a c b _ HO.out.2.1 HO.out.2.2.1).mono ?_
  rintro e w2 ⟨fr, to, er, rfl, hin, hb2⟩
  have H2 : Hid (RB w2 (.slice a1 b.length c1) b ∧ RB w2 (.slice a b.length c) b ∧ TB w2.heap.size w2 ∧ Below w.heap.size w w2 ∧ INP b fr to er) := by
    obtain ⟨q1, q2, q3, q4, q5⟩ := HO.out
    exact ⟨q1.keep hb2, q2.keep hb2, tb_up (q4.on hb2) hb2.size, q5.trans (hb2.mono q5.size), hin⟩
  clear HO hin hb2
  go_wp2_with fail
  refine (info17 _ b _ H2.out.1 hl H2.out.2.2.1).mono ?_
  rintro e w3 ⟨fr', to', er', rfl, hin, hb3⟩
  obtain ⟨rfl, rfl, rfl⟩ := info_same H2.out.2.2.2.2 hin
  have H3 : Hid (RB w3 (.slice a1 b.length c1) b ∧ RB w3 (.slice a b.length c) b ∧ Below w.heap.size w w3) := by
    obtain ⟨q1, q2, q3, q4, q5⟩ := H2.out
    exact ⟨q1.keep hb3, q2.keep hb3, q4.trans (hb3.mono q4.size)⟩
  clear H2 hin hb3
  go_wp2_with fail
  refine (same9 _ _ b _ hl H3.out.2.1 H3.out.1).mono ?_
  rintro e w6 ⟨rfl, nq, rfl⟩
  go_wp2
  go_ret
  have h := H3.out.2.2
  exact ⟨rfl, ⟨h.os, h.tape, h.output, h.size, h.block⟩⟩
end Go.Proofs.YtdlnnnlmlaploaaDoor
