import Derived.Test.YtldkecjfjcnkfaaHc
namespace Go.Proofs.Ytldkecjfjcnkfaa
open Go.RowKit Go.Deep
def lsN (key : ByteArray) (x : ByteArray × Int) : Bool := Op.bytesLess x.1.toList key.toList
def gsN (key : ByteArray) (x : ByteArray × Int) : Bool := Op.bytesLess key.toList x.1.toList
/-- the names with one more, in its place -/
def ptN (ns : List (ByteArray × Int)) (key : ByteArray) (id : Int) : List (ByteArray × Int) := ns.filter (lsN key) ++ [(key, id)] ++ ns.filter (gsN key)
theorem filterN_snoc {α : Type} (q : α → Bool) {l : List α} {i : Nat} {e : α} (h : l[i]? = some e) : (l.take (i + 1)).filter q = (l.take i).filter q ++ (if q e then [e] else []) := by
  rw [List.take_add_one, h]
  simp [List.filter_append, List.filter_cons]
theorem filterN_len {α : Type} (q : α → Bool) (l : List α) (i : Nat) : ((l.take i).filter q).length ≤ i := Nat.le_trans (List.length_filter_le _ _) (by rw [List.length_take]; omega)
def NW (B : Nat) (w0 : World) (acc : List (ByteArray × Int)) (v : Value) (wr : World) : Prop := wr.ownsRow B 46 2 v acc.length (nsC acc) ∧ Below B w0 wr
theorem NW.put {B : Nat} {w0 wr wb wa : World} {acc : List (ByteArray × Int)} {e : ByteArray × Int} {v v' : Value} {n : Nat} (h : NW B w0 acc v wr) (hn : n = acc.length + 1) (hB : B ≤ wr.heap.size) (hb : Below wr.heap.size wr wb) (ho : wa.ownsRow B 46 2 v' n (nsC acc ++ nsC [e])) (hg : wb.grownBy wa v.ownBlock) : NW B w0 (acc ++ [e]) v' wa := by
  refine ⟨by rw [nsC_app]; subst hn; simpa using ho, (h.2.trans (hb.mono hB)).grown hg (Nat.le_trans hB hb.size) (fun k hk => (World.ownsRow.lt h.1 k hk).1)⟩
theorem NW.keep {B : Nat} {w0 wr wb : World} {acc : List (ByteArray × Int)} {v : Value} (h : NW B w0 acc v wr) (hB : B ≤ wr.heap.size) (hb : Below wr.heap.size wr wb) : NW B w0 acc v wb :=
  ⟨h.1.kept (grown_of_below hb) (by cases hv : v.ownBlock with | none => exact .inl rfl | some q => exact .inr (by simp)), h.2.trans (hb.mono hB)⟩
theorem belowDN (w : World) (n : Nat) : Below w.heap.size w (w.drewN n) := ⟨rfl, rfl, rfl, Nat.le_refl _, fun _ _ => rfl⟩
set_option maxHeartbeats 8000000 in
set_option maxRecDepth 100000 in
theorem put30 (v1 : Value) (ns : List (ByteArray × Int)) (key : ByteArray) (id : Int) (w : World) (h1 : RNs w v1 ns) (hl : ns.length ≤ 2147483000) :
    Calls Try.prog 30 #[v1, .agg #[.string key, .int .i64 id]] w fun e w' => ∃ v', e = .returned v' ∧ w'.ownsRow (w.heap.size + 1) 46 2 v' (ptN ns key id).length (nsC (ptN ns key id)) ∧ Below w.heap.size w w' := by
  obtain ⟨a1, c1, rfl, hx1⟩ := h1
  have HX := Lib.hid hx1
  obtain ⟨i0, hi, hz0, hz1, hz2⟩ := info_parts info46
  have HB0 : Hid (Below w.heap.size w (w.alloc (.cells #[.string key, .int .i64 id] 46)) ∧ (w.alloc (.cells #[.string key, .int .i64 id] 46)).heap[w.heap.size]? = some (.cells #[.string key, .int .i64 id] 46 (0, 0)) ∧ (w.alloc (.cells #[.string key, .int .i64 id] 46)).heap.size = w.heap.size + 1) := ⟨(Below.refl _ _).alloc (Nat.le_refl _) _, heap_new _ _, by simp⟩
  generalize hnn : ns.length = n at *
  have HNN := Lib.hid hnn
  clear hnn hx1
  go_enter Try.func30, Try.ntmps30
  go_upto_region 1 with fail
  generalize (w.alloc (.cells #[.string key, .int .i64 id] 46)) = w0 at *
  have HRW0 : Hid (NW (w.heap.size + 1) w0 [] (.slice none 0 0) w0) := ⟨World.ownsRow_nil _ _ _ _, Below.refl _ _⟩
  have HSZ0 : Hid (w.heap.size + 1 ≤ w0.heap.size) := by have := HB0.out.2.2; show _ ≤ _; omega
  go_wp2_with fail
  go_loopw [5, 6] (fun lv ti wr => ∃ i : Nat, i ≤ n ∧ ti = .int .i64 i ∧ Hid (NW (w.heap.size + 1) w0 ((ns.take i).filter (lsN key)) lv wr)) (fun _ ti _ => n - (intOf ti).toNat)
  case atStart => exact ⟨0, Nat.zero_le _, rfl, HRW0.out⟩
  case round =>
    obtain ⟨i, hin, rfl, HI⟩ := hrel
    clear HRW0
    have HSZ : Hid (w.heap.size + 1 ≤ wr.heap.size) := Nat.le_trans HSZ0.out (Nat.le_trans HI.out.2.size (Nat.le_refl _))
    have hzb : wr.heap[w.heap.size]? = some (.cells #[.string key, .int .i64 id] 46 (0, 0)) := (HI.out.2.block _ (Nat.lt_succ_self _)).trans HB0.out.2.1
    have z0 : wr.cell? ⟨w.heap.size, 0, none⟩ = some (.string key) := by simp [World.cell?, hzb]
    have z1 : wr.cell? ⟨w.heap.size, 1, none⟩ = some (.int .i64 id) := by simp [World.cell?, hzb]
    clear hzb
    by_cases hlt : i < n
    · obtain ⟨e, he⟩ : ∃ e, ns[i]? = some e := ⟨_, List.getElem?_eq_getElem (by have := HNN.out; omega)⟩
      obtain ⟨g, o, rfl, hg, hcc⟩ := HX.out.resolve_left (fun e => by rw [e] at he; simp at he)
      have hfl := filterN_len (lsN key) ns i
      obtain ⟨ek, ei⟩ := e
      have HBW : Hid (Below w.heap.size w wr) := HB0.out.1.trans (HI.out.2.mono (Nat.le_succ _))
      have g0 : wr.cell? ⟨g, o + i * 2, none⟩ = some (.string ek) := Below.cellS HBW.out (Nat.le_refl _) (hcc i _ he).1
      have g1 : wr.cell? ⟨g, o + i * 2 + 1, none⟩ = some (.int .i64 ei) := Below.cellS HBW.out (Nat.le_refl _) (hcc i _ he).2
      have HXI := Lib.hid he
      clear hcc he HBW
      have hi0 : (0 : Int) ≤ (i : Int) := by omega
      have hi1 : (i : Int) < (n : Int) := by omega
      cases hll : Op.bytesLess ek.toList key.toList with
      | true =>
        go_upto_region 5 with fail
        go_quiet (fail)
        have hqn : ∀ k, k < wr.heap.size → (wr.drewN nq).heap[k]? = wr.heap[k]? := fun k _ => rfl
        have HIQ := Lib.hid (HI.out.keep HSZ.out (belowDN wr nq))
        have HSZQ : Hid (w.heap.size + 1 ≤ (wr.drewN nq).heap.size) := HSZ.out
        clear HI HSZ hqn
        have HI := HIQ
        have HSZ := HSZQ
        clear HIQ HSZQ
        have g0q : (wr.drewN nq).cell? ⟨g, o + i * 2, none⟩ = some (.string ek) := g0
        have g1q : (wr.drewN nq).cell? ⟨g, o + i * 2 + 1, none⟩ = some (.int .i64 ei) := g1
        have z0q : (wr.drewN nq).cell? ⟨w.heap.size, 0, none⟩ = some (.string key) := z0
        have z1q : (wr.drewN nq).cell? ⟨w.heap.size, 1, none⟩ = some (.int .i64 id) := z1
        clear g0 g1 z0 z1
        generalize wr.drewN nq = wq at *
        have HLT : Hid (lsN key (ek, ei) = true) := hll
        have HOW := Lib.hid HI.out.1
        obtain ⟨la, lc, rfl⟩ := ownForm HI.out.1
        generalize hal : ((ns.take i).filter (lsN key)).length = al at *
        have HAL := Lib.hid hal
        clear hal
        go_wp2_with (at_builtin; refine wpList_append_own _ rfl _ _ 32 rfl (w.heap.size + 1) 46 i0 _ 2 24 Try.underlying32 hi hz0 hz1 hz2 rfl (by omega) _ al (nsC ((ns.take i).filter (lsN key))) rfl (by exact (HOW.out.alloc _)) ⟨_, 0, none⟩ 1 1 (nsC [(ek, ei)]) rfl rfl (by exact World.news_of_block (heap_new _ _)) (nsC_one _) (by unfold maxLen; omega) (by omega) (by have := HSZ.out; simp; omega) ?_; intro v' wa hoa hga _; obtain ⟨a', c', rfl⟩ := ownForm hoa)
        have HR2 : Hid (NW (w.heap.size + 1) w0 ((ns.take (i + 1)).filter (lsN key)) (.slice a' (al + 1) c') wa) := by
          rw [filterN_snoc _ HXI.out, if_pos HLT.out]
          exact HI.out.put (by rw [HAL.out]) (Nat.le_trans HSZ.out (Nat.le_refl _)) ((Below.refl _ _).alloc (Nat.le_refl _) _) hoa hga
        clear hoa hga HOW HI g0q g1q z0q z1q
        go_wp2
        exact ⟨⟨i + 1, by omega, by go_num, HR2⟩, by simp [intOf]; omega⟩
      | false =>
        go_upto_region 5 with fail
        go_quiet (fail)
        have hqn : ∀ k, k < wr.heap.size → (wr.drewN nq).heap[k]? = wr.heap[k]? := fun k _ => rfl
        have HIQ := Lib.hid (HI.out.keep HSZ.out (belowDN wr nq))
        have HSZQ : Hid (w.heap.size + 1 ≤ (wr.drewN nq).heap.size) := HSZ.out
        clear HI HSZ hqn
        have HI := HIQ
        have HSZ := HSZQ
        clear HIQ HSZQ
        have g0q : (wr.drewN nq).cell? ⟨g, o + i * 2, none⟩ = some (.string ek) := g0
        have g1q : (wr.drewN nq).cell? ⟨g, o + i * 2 + 1, none⟩ = some (.int .i64 ei) := g1
        have z0q : (wr.drewN nq).cell? ⟨w.heap.size, 0, none⟩ = some (.string key) := z0
        have z1q : (wr.drewN nq).cell? ⟨w.heap.size, 1, none⟩ = some (.int .i64 id) := z1
        clear g0 g1 z0 z1
        generalize wr.drewN nq = wq at *
        have HR2 : Hid (NW (w.heap.size + 1) w0 ((ns.take (i + 1)).filter (lsN key)) u5 wq) := by
          rw [filterN_snoc _ HXI.out, if_neg (by show ¬ Op.bytesLess ek.toList key.toList = true; rw [hll]; decide), List.append_nil]
          exact HI.out
        clear HI
        go_wp2
        exact ⟨⟨i + 1, by omega, by go_num, HR2⟩, by simp [intOf]; omega⟩
    · obtain rfl : i = n := by omega
      have hfl := filterN_len (lsN key) ns i
      have HOW := Lib.hid HI.out.1
      obtain ⟨la, lc, rfl⟩ := ownForm HI.out.1
      generalize hal : ((ns.take i).filter (lsN key)).length = al at *
      have HAL := Lib.hid hal
      clear hal
      go_wp2_with (at_builtin; refine wpList_append_own _ rfl _ _ 32 rfl (w.heap.size + 1) 46 i0 _ 2 24 Try.underlying32 hi hz0 hz1 hz2 rfl (by omega) _ al (nsC ((ns.take i).filter (lsN key))) rfl (by exact (HOW.out.alloc _)) ⟨_, 0, none⟩ 1 1 (nsC [(key, id)]) rfl rfl (by exact World.news_of_block (heap_new _ _)) (nsC_one _) (by unfold maxLen; omega) (by omega) (by have := HSZ.out; simp; omega) ?_; intro v' wa hoa hga _; obtain ⟨a', c', rfl⟩ := ownForm hoa)
      have HR1 : Hid (NW (w.heap.size + 1) w0 ((ns.filter (lsN key)) ++ [(key, id)]) (.slice a' (al + 1) c') wa ∧ ((ns.filter (lsN key)) ++ [(key, id)]).length = al + 1) := by
        have h9 := HI.out.put (e := (key, id)) (by rw [HAL.out]) (Nat.le_trans HSZ.out (Nat.le_refl _)) ((Below.refl _ _).alloc (Nat.le_refl _) _) hoa hga
        have h8 := HAL.out
        rw [List.take_of_length_le (by have := HNN.out; omega)] at h9 h8
        exact ⟨h9, by rw [List.length_append, h8]; rfl⟩
      clear hoa hga HOW HI z0 z1 HSZ HAL
      have HAL2 : Hid (al ≤ i) := hfl
      clear hfl
      go_wp2_with fail
      go_loopw [5, 7] (fun lv ti wr => ∃ j : Nat, j ≤ i ∧ ti = .int .i64 j ∧ Hid (NW (w.heap.size + 1) w0 ((ns.filter (lsN key)) ++ [(key, id)] ++ (ns.take j).filter (gsN key)) lv wr)) (fun _ ti _ => i - (intOf ti).toNat)
      case atStart => exact ⟨0, Nat.zero_le _, rfl, by rw [List.take_zero, List.filter_nil, List.append_nil]; exact HR1.out.1⟩
      case round =>
        obtain ⟨j, hjn, rfl, HI⟩ := hrel
        have HSZ : Hid (w.heap.size + 1 ≤ wr.heap.size) := Nat.le_trans HSZ0.out (Nat.le_trans HI.out.2.size (Nat.le_refl _))
        have hfl2 : ((ns.filter (lsN key)) ++ [(key, id)] ++ (ns.take j).filter (gsN key)).length ≤ i + 1 + j := by
          have h1 := filterN_len (gsN key) ns j
          have h2 := HR1.out.2
          have h3 := HAL2.out
          rw [List.length_append, h2]
          omega
        have hzb : wr.heap[w.heap.size]? = some (.cells #[.string key, .int .i64 id] 46 (0, 0)) := (HI.out.2.block _ (Nat.lt_succ_self _)).trans HB0.out.2.1
        have z0 : wr.cell? ⟨w.heap.size, 0, none⟩ = some (.string key) := by simp [World.cell?, hzb]
        clear hzb
        by_cases hlt : j < i
        · obtain ⟨e, he⟩ : ∃ e, ns[j]? = some e := ⟨_, List.getElem?_eq_getElem (by have := HNN.out; omega)⟩
          obtain ⟨g, o, rfl, hg, hcc⟩ := HX.out.resolve_left (fun e => by rw [e] at he; simp at he)
          obtain ⟨ek, ei⟩ := e
          have HBW : Hid (Below w.heap.size w wr) := HB0.out.1.trans (HI.out.2.mono (Nat.le_succ _))
          have g0 : wr.cell? ⟨g, o + j * 2, none⟩ = some (.string ek) := Below.cellS HBW.out (Nat.le_refl _) (hcc j _ he).1
          have g1 : wr.cell? ⟨g, o + j * 2 + 1, none⟩ = some (.int .i64 ei) := Below.cellS HBW.out (Nat.le_refl _) (hcc j _ he).2
          have HXI := Lib.hid he
          clear hcc he HBW
          have hi0 : (0 : Int) ≤ (j : Int) := by omega
          have hi1 : (j : Int) < (i : Int) := by omega
          have htri := bytes_tri ek.toList key.toList
          cases hll : Op.bytesLess key.toList ek.toList with
          | true =>
            have q1 : Op.bytesLess ek.toList key.toList = false := by rw [hll] at htri; cases hq : Op.bytesLess ek.toList key.toList with | false => rfl | true => rw [hq] at htri; cases htri
            have q2 : (ek.toList == key.toList) = false := by rw [hll, q1] at htri; cases hq : (ek.toList == key.toList) with | false => rfl | true => rw [hq] at htri; cases htri
            clear htri
            go_upto_region 11 with fail
            go_quiet (fail)
            have hqn : ∀ k, k < wr.heap.size → (wr.drewN nq).heap[k]? = wr.heap[k]? := fun k _ => rfl
            have HIQ := Lib.hid (HI.out.keep HSZ.out (belowDN wr nq))
            have HSZQ : Hid (w.heap.size + 1 ≤ (wr.drewN nq).heap.size) := HSZ.out
            clear HI HSZ hqn
            have HI := HIQ
            have HSZ := HSZQ
            clear HIQ HSZQ
            have g0q : (wr.drewN nq).cell? ⟨g, o + j * 2, none⟩ = some (.string ek) := g0
            have g1q : (wr.drewN nq).cell? ⟨g, o + j * 2 + 1, none⟩ = some (.int .i64 ei) := g1
            have z0q : (wr.drewN nq).cell? ⟨w.heap.size, 0, none⟩ = some (.string key) := z0
            clear g0 g1 z0
            generalize wr.drewN nq = wq at *
            have HLT : Hid (gsN key (ek, ei) = true) := hll
            have HOW := Lib.hid HI.out.1
            obtain ⟨la, lc, rfl⟩ := ownForm HI.out.1
            generalize hal : ((ns.filter (lsN key)) ++ [(key, id)] ++ (ns.take j).filter (gsN key)).length = al at *
            have HAL := Lib.hid hal
            clear hal
            go_wp2_with (at_builtin; refine wpList_append_own _ rfl _ _ 32 rfl (w.heap.size + 1) 46 i0 _ 2 24 Try.underlying32 hi hz0 hz1 hz2 rfl (by omega) _ al (nsC ((ns.filter (lsN key)) ++ [(key, id)] ++ (ns.take j).filter (gsN key))) rfl (by exact (HOW.out.alloc _)) ⟨_, 0, none⟩ 1 1 (nsC [(ek, ei)]) rfl rfl (by exact World.news_of_block (heap_new _ _)) (nsC_one _) (by unfold maxLen; omega) (by omega) (by have := HSZ.out; simp; omega) ?_; intro v' wa hoa hga _; obtain ⟨a', c', rfl⟩ := ownForm hoa)
            have HR2 : Hid (NW (w.heap.size + 1) w0 ((ns.filter (lsN key)) ++ [(key, id)] ++ (ns.take (j + 1)).filter (gsN key)) (.slice a' (al + 1) c') wa) := by
              rw [filterN_snoc _ HXI.out, if_pos HLT.out, ← List.append_assoc]
              exact HI.out.put (by rw [HAL.out]) (Nat.le_trans HSZ.out (Nat.le_refl _)) ((Below.refl _ _).alloc (Nat.le_refl _) _) hoa hga
            clear hoa hga HOW HI g0q g1q z0q
            go_wp2
            exact ⟨⟨j + 1, by omega, by go_num, HR2⟩, by simp [intOf]; omega⟩
          | false =>
            cases q1 : Op.bytesLess ek.toList key.toList with
            | true =>
              clear htri
              go_upto_region 11 with fail
              go_quiet (fail)
              have hqn : ∀ k, k < wr.heap.size → (wr.drewN nq).heap[k]? = wr.heap[k]? := fun k _ => rfl
              have HIQ := Lib.hid (HI.out.keep HSZ.out (belowDN wr nq))
              have HSZQ : Hid (w.heap.size + 1 ≤ (wr.drewN nq).heap.size) := HSZ.out
              clear HI HSZ hqn
              have HI := HIQ
              have HSZ := HSZQ
              clear HIQ HSZQ
              have g0q : (wr.drewN nq).cell? ⟨g, o + j * 2, none⟩ = some (.string ek) := g0
              have g1q : (wr.drewN nq).cell? ⟨g, o + j * 2 + 1, none⟩ = some (.int .i64 ei) := g1
              have z0q : (wr.drewN nq).cell? ⟨w.heap.size, 0, none⟩ = some (.string key) := z0
              clear g0 g1 z0
              generalize wr.drewN nq = wq at *
              have HR2 : Hid (NW (w.heap.size + 1) w0 ((ns.filter (lsN key)) ++ [(key, id)] ++ (ns.take (j + 1)).filter (gsN key)) u5 wq) := by
                rw [filterN_snoc _ HXI.out, if_neg (by show ¬ Op.bytesLess key.toList ek.toList = true; rw [hll]; decide), List.append_nil]
                exact HI.out
              clear HI
              go_wp2
              exact ⟨⟨j + 1, by omega, by go_num, HR2⟩, by simp [intOf]; omega⟩
            | false =>
              have q2 : (ek.toList == key.toList) = true := by rw [hll, q1] at htri; cases hq : (ek.toList == key.toList) with | true => rfl | false => rw [hq] at htri; cases htri
              clear htri
              go_upto_region 11 with fail
              go_quiet (fail)
              have hqn : ∀ k, k < wr.heap.size → (wr.drewN nq).heap[k]? = wr.heap[k]? := fun k _ => rfl
              have HIQ := Lib.hid (HI.out.keep HSZ.out (belowDN wr nq))
              have HSZQ : Hid (w.heap.size + 1 ≤ (wr.drewN nq).heap.size) := HSZ.out
              clear HI HSZ hqn
              have HI := HIQ
              have HSZ := HSZQ
              clear HIQ HSZQ
              have g0q : (wr.drewN nq).cell? ⟨g, o + j * 2, none⟩ = some (.string ek) := g0
              have g1q : (wr.drewN nq).cell? ⟨g, o + j * 2 + 1, none⟩ = some (.int .i64 ei) := g1
              have z0q : (wr.drewN nq).cell? ⟨w.heap.size, 0, none⟩ = some (.string key) := z0
              clear g0 g1 z0
              generalize wr.drewN nq = wq at *
              have HR2 : Hid (NW (w.heap.size + 1) w0 ((ns.filter (lsN key)) ++ [(key, id)] ++ (ns.take (j + 1)).filter (gsN key)) u5 wq) := by
                rw [filterN_snoc _ HXI.out, if_neg (by show ¬ Op.bytesLess key.toList ek.toList = true; rw [hll]; decide), List.append_nil]
                exact HI.out
              clear HI
              go_wp2
              exact ⟨⟨j + 1, by omega, by go_num, HR2⟩, by simp [intOf]; omega⟩
        · obtain rfl : j = i := by omega
          have HF : Hid (u5 = u5 ∧ wr.ownsRow (w.heap.size + 1) 46 2 u5 (ptN ns key id).length (nsC (ptN ns key id)) ∧ Below w.heap.size w wr) := by
            have h9 := HI.out
            rw [List.take_of_length_le (by have := HNN.out; omega)] at h9
            exact ⟨rfl, h9.1, HB0.out.1.trans (h9.2.mono (Nat.le_succ _))⟩
          clear HI
          go_wp2
          go_ret
          exact ⟨_, rfl, HF.out.2⟩
end Go.Proofs.Ytldkecjfjcnkfaa
