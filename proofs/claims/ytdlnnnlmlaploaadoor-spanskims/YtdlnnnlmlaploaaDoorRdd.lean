import Derived.Test.YtdlnnnlmlaploaaDoorRdk
namespace Go.Proofs.YtdlnnnlmlaploaaDoor
open Go.RowKit Go.Deep
theorem step_dict {b : List UInt8} {st : List Fr} {l : List (ByteArray × T)} {j : Nat} (hj : j < b.length) (hx : byt b j = 101) : step b ({ d := true, ps := l } :: st) j = deliver st (tDict l) (j + 1) := by
  unfold step; rw [if_neg (by omega)]
  dsimp only
  rw [if_pos ⟨rfl, rfl⟩, if_pos hx]
  rfl
theorem step_key {b : List UInt8} {st : List Fr} {l : List (ByteArray × T)} {j : Nat} (hj : j < b.length) (hx : ¬ byt b j = 101) : step b ({ d := true, ps := l } :: st) j = match keyP b l j with
    | .bad p e => .bad p e
    | .ok s k => .go ({ d := true, ps := l, key := s, has := true } :: st) k := by
  unfold step; rw [if_neg (by omega)]
  dsimp only
  rw [if_pos ⟨rfl, rfl⟩, if_neg hx, keyy_eq hj]
  rfl
theorem strg_lt {b : List UInt8} {i j : Nat} {s : ByteArray} (h : strg b i = .ok s j) : i < j ∧ s.size ≤ b.length ∧ j ≤ b.length := by
  unfold strg at h
  cases hd : digs b 58 i with
  | bad p e => rw [hd] at h; cases h
  | ok d k =>
    rw [hd] at h
    dsimp only at h
    obtain ⟨_, h2, h3, h4, _⟩ := digs_ok hd
    split at h
    · cases h
    · split at h
      · rename_i n hn
        split at h
        · cases h
        · cases h
          have h0 : 0 ≤ n := atoi_nonneg ((digs_len hd).2 0 (by have := (digs_len hd).1; omega)) hn
          refine ⟨by omega, ?_, by omega⟩
          rw [ba_size, cut_length (by omega)]
          omega
      · cases h
theorem keyP_ok {b : List UInt8} {l : List (ByteArray × T)} {i j : Nat} {s : ByteArray} (h : keyP b l i = .ok s j) : i < j ∧ s.size ≤ b.length ∧ (l ≠ [] → leB s (lastK l) = false) := by
  unfold keyP at h
  cases hs : strg b i with
  | bad p e => rw [hs] at h; cases h
  | ok s' k =>
    rw [hs] at h
    dsimp only at h
    split at h
    · cases h
    · rename_i hn
      cases h
      obtain ⟨h1, h2, _⟩ := strg_lt hs
      refine ⟨h1, h2, fun hl => ?_⟩
      cases e : leB s (lastK l) with
      | false => rfl
      | true => exact absurd ⟨hl, e⟩ hn
set_option maxRecDepth 10000 in
set_option maxHeartbeats 2000000 in
theorem dict49 (b : List UInt8) (N : Nat) (ih : VVc b N) (rb : Nat) (a : Option Addr) (c : Nat) (st : List Fr) (i : Nat) (w : World) (hN : b.length - i ≤ N) (h : RR rb w a c b i) (hi : i < b.length) (hst : st.length < 32) (hrd : ready b st i) (hx : byt b i = 100) :
    Calls Tryd.prog 83 #[.pointer (some ⟨rb, 0, none⟩), .int .i64 (st.length : Int)] w fun e w' => valEnd b st i rb w w' a c (.iface 105) e := by
  obtain ⟨c0, c1, f1⟩ := h.cells
  have hl := h.2.2.2.1
  have hrb : rb < w.heap.size := h.1.1.lt
  have HI := Lib.hid ih
  have H0 := Lib.hid h
  have HR1 : Hid (Run b (.go st i) (.go ({ d := true } :: st) (i + 1))) := Lib.hid (Run.one (by rw [step_ready hrd hi, opn, if_neg (by rw [hx]; decide), if_pos hx, if_neg (by omega)]))
  have HN : Hid (RR rb ((w.setCell ⟨rb, 1, none⟩ (.int .i64 ((i : Int) + 1))).alloc (Obj.cells #[] 125)) a c b (i + 1) ∧ BB w.heap.size rb w ((w.setCell ⟨rb, 1, none⟩ (.int .i64 ((i : Int) + 1))).alloc (Obj.cells #[] 125)) ∧ DI w.heap.size ((w.setCell ⟨rb, 1, none⟩ (.int .i64 ((i : Int) + 1))).alloc (Obj.cells #[] 125)) (.slice (some ⟨w.heap.size, 0, none⟩) 0 0) []) := by
    have e : (w.setCell ⟨rb, 1, none⟩ (.int .i64 ((i : Int) + 1))).heap.size = w.heap.size := by simp [World.setCell]
    have hs := h.set (i + 1) (by omega)
    refine ⟨hs.heap ((Below.refl _ _).alloc (Nat.le_refl _) _), (BB.of (Besides.refl rb w).set1 (Nat.le_refl _)).trans (BB.alloc (by rw [e]; exact Nat.le_refl _) _), DI.nil (Nat.le_refl _) ?_⟩
    have := heap_new (w.setCell ⟨rb, 1, none⟩ (.int .i64 ((i : Int) + 1))) (Obj.cells #[] 125)
    rw [e] at this
    exact this
  clear h ih hrd hx
  go_enter Tryd.func83, Tryd.ntmps83
  go_wp2
  clear c0 c1 f1
  generalize (w.setCell ⟨rb, 1, none⟩ (.int .i64 ((i : Int) + 1))).alloc (Obj.cells #[] 125) = w1 at *
  go_loopw [5] (fun v wr => ∃ (l : List (ByteArray × T)) (j : Nat), Hid (DI w.heap.size wr v l ∧ RR rb wr a c b j ∧ BB w.heap.size rb w wr ∧ i < j ∧ l.length ≤ j ∧ DOK l ∧ Run b (.go st i) (.go ({ d := true, ps := l } :: st) j))) (fun _ wr => b.length - atOf wr rb)
  case atStart => exact ⟨[], i + 1, HN.out.2.2, HN.out.1, HN.out.2.1, Nat.lt_succ_self _, Nat.zero_le _, dok_nil, HR1.out⟩
  case round =>
    clear HN HR1
    obtain ⟨l, j, HO⟩ := hrel
    have hmer := HO.out.2.1.atOf
    have hjn := HO.out.2.1.2.1
    have hij := HO.out.2.2.2.1
    have hlj := HO.out.2.2.2.2.1
    go_wp2_with fail
    refine (next43 rb a c b j wr HO.out.2.1).mono ?_
    rintro e w2 ⟨hb1, ⟨hlt, rfl⟩ | ⟨heq, rfl⟩⟩
    case inr =>
      rw [heq]
      exact ⟨rfl, valEnd.bad (BB.besides (HO.out.2.2.1.trans (BB.of (Besides.of_below hb1) HO.out.2.2.1.size))) (HO.out.2.2.2.2.2.2.trans (Run.one (step_end (by omega))))⟩
    have HP : Hid (DI w.heap.size w2 u5 l ∧ RR rb w2 a c b j ∧ BB w.heap.size rb w w2 ∧ DOK l ∧ Run b (.go st i) (.go ({ d := true, ps := l } :: st) j)) :=
      ⟨HO.out.1.keep hb1.size (fun x _ hx => hb1.block x hx), HO.out.2.1.heap hb1, HO.out.2.2.1.trans (BB.of (Besides.of_below hb1) HO.out.2.2.1.size), HO.out.2.2.2.2.2.1, HO.out.2.2.2.2.2.2⟩
    clear HO hb1
    obtain ⟨g, cap, rfl⟩ : ∃ g cap, u5 = .slice (some ⟨g, 0, none⟩) l.length cap := by
      obtain ⟨us, g, q1, q2, _⟩ := HP.out.1
      obtain ⟨cap, rfl, _⟩ := own_form q1 q2
      exact ⟨g, cap, rfl⟩
    by_cases hx : byt b j = 101
    · rw [hx]
      obtain ⟨c0, c1, f1⟩ := HP.out.2.1.cells
      have HE : Hid (valEnd b st i rb w (w2.setCell ⟨rb, 1, none⟩ (.int .i64 ((j : Int) + 1))) a c (.iface 105) (.returned (.slice (some ⟨g, 0, none⟩) l.length cap))) := by
        obtain ⟨q1, q2, q3, q4, q5⟩ := HP.out
        have e : (w2.setCell ⟨rb, 1, none⟩ (.int .i64 ((j : Int) + 1))).heap.size = w2.heap.size := by simp [World.setCell]
        exact Lib.hid (valEnd.ok (BB.besides (q3.trans (BB.of (Besides.refl rb w2).set1 q3.size))) (DI.keep q1 (by rw [e]; exact Nat.le_refl _) (fun x hx _ => Below.heap_setCell _ _ _ _ (by show x ≠ rb; omega))).node (q2.set (j + 1) (by omega)) (by omega) (q5.trans (Run.one (step_dict hlt hx))) (tok_dict l q4))
      clear HP
      go_wp2
      go_ret
      exact HE.out
    · have hz : ((byt b j).toNat : Int) ≠ 101 := u8_ne hx
      have hlb : l.length ≤ 1048576 := by omega
      go_wp2_with fail
      refine (key56 rb a c b j w.heap.size g cap l w2 HP.out.2.1 HP.out.1 hrb hlb).mono ?_
      intro e w5 hp
      obtain ⟨hb5, ⟨s, j1, hk1, rfl, hr5⟩ | ⟨p, er, hk1, rfl⟩⟩ := hp.cases
      case inr => exact ⟨rfl, valEnd.bad (BB.besides (HP.out.2.2.1.trans (BB.of hb5 HP.out.2.2.1.size))) (HP.out.2.2.2.2.trans (Run.one (by rw [step_key hlt hx, hk1])))⟩
      have hkf := keyP_ok hk1
      have HP5 : Hid (DI w.heap.size w5 (.slice (some ⟨g, 0, none⟩) l.length cap) l ∧ RR rb w5 a c b j1 ∧ BB w.heap.size rb w w5 ∧ DOK l ∧ Run b (.go st i) (.go ({ d := true, ps := l, key := s, has := true } :: st) j1)) := by
        obtain ⟨q1, q2, q3, q4, q5⟩ := HP.out
        exact ⟨q1.keep hb5.size (fun x h1 h2 => hb5.block x h2 (by omega)), hr5, q3.trans (BB.of hb5 q3.size), q4, q5.trans (Run.one (by rw [step_key hlt hx, hk1]))⟩
      have hj1 : j < j1 := hkf.1
      have HK : Hid (s.size ≤ 1048576 ∧ (l ≠ [] → leB s (lastK l) = false)) := ⟨by have := hkf.2.1; omega, hkf.2.2⟩
      clear HP hb5 hr5 hp hk1 hkf
      have hj1n := HP5.out.2.1.2.1
      have HV := HI.out rb a c ({ d := true, ps := l, key := s, has := true } :: st) j1 w5 (by omega) HP5.out.2.1 (by simp; omega) (.inl ⟨rfl, rfl⟩)
      rw [show ((({ d := true, ps := l, key := s, has := true } : Fr) :: st).length : Int) = (st.length : Int) + 1 from by simp] at HV
      have HVH := Lib.hid HV
      clear HV
      go_wp2_with fail
      refine HVH.out.mono ?_
      clear HVH
      rintro e w3 ⟨hb3, ⟨t, u, j2, rfl, hrn, hrr, hlt2, hrun, htok⟩ | ⟨p, er, rfl, hrun⟩⟩
      case inr => exact ⟨rfl, valEnd.bad (BB.besides (HP5.out.2.2.1.trans (BB.of hb3 HP5.out.2.2.1.size))) (HP5.out.2.2.2.2.trans hrun)⟩
      obtain ⟨ty, uu, rfl⟩ := hrn.iface
      have hB3 : w.heap.size ≤ w3.heap.size := Nat.le_trans HP5.out.2.2.1.size hb3.size
      have hli : DI w.heap.size (w3.alloc (Obj.cells #[.string s, .iface ty uu] 125)) (.slice (some ⟨g, 0, none⟩) l.length cap) l :=
        (HP5.out.1.keep hb3.size (fun x hx1 hx2 => hb3.block x hx2 (by omega))).keep (by simp) (fun x _ hx2 => Below.heap_alloc _ _ _ hx2)
      have hrn' : RN (fun x => w.heap.size ≤ x ∧ some x ≠ (Value.slice (some ⟨g, 0, none⟩) l.length cap).ownBlock) (w3.alloc (Obj.cells #[.string s, .iface ty uu] 125)) t (.iface ty uu) := by
        obtain ⟨us, g', q1, q2, _⟩ := HP5.out.1
        have q3 := own_lt q1 q2
        cases q2
        refine RN.move (fun x hx _ => ⟨Nat.le_trans HP5.out.2.2.1.size hx, fun e => ?_⟩) (by simp) (fun x _ hx2 => Below.heap_alloc _ _ _ hx2) _ _ hrn
        have h5 : x = g := by cases e; rfl
        have h6 : g < w5.heap.size := q3.2
        omega
      have HQ : Hid (RR rb w3 a c b j2 ∧ BB w.heap.size rb w w3 ∧ j1 < j2 ∧ DOK (l ++ [(s, t)]) ∧ Run b (.go st i) (.go ({ d := true, ps := l ++ [(s, t)] } :: st) j2)) := by
        obtain ⟨_, _, q3, q4, q5⟩ := HP5.out
        exact ⟨hrr, q3.trans (BB.of hb3 q3.size), hlt2, dok_snoc q4 (by omega) HK.out.1 htok HK.out.2, q5.trans hrun⟩
      have hll : l.length ≤ 2097152 := by omega
      clear hrn hrr hrun htok hb3 HP5 HK
      go_wp2_with (at_builtin; refine append_entry (rb := rb) (B := w.heap.size) (t := t) (key := s) rfl _ _ rfl rfl hli _ (.iface ty uu) rfl (by go_simp) (by go_simp) hrn' (by simp; omega) hll ?_)
      intro v' w4 hl4 hb4 hf4
      have HZ : Hid (DI w.heap.size w4 v' (l ++ [(s, t)]) ∧ RR rb w4 a c b j2 ∧ BB w.heap.size rb w w4 ∧ i < j2 ∧ (l ++ [(s, t)]).length ≤ j2 ∧ DOK (l ++ [(s, t)]) ∧ Run b (.go st i) (.go ({ d := true, ps := l ++ [(s, t)] } :: st) j2)) := by
        obtain ⟨q1, q2, q3, q4, q5⟩ := HQ.out
        have hz5 : (w3.alloc (Obj.cells #[.string s, .iface ty uu] 125)).heap.size = w3.heap.size + 1 := by simp
        have hz6 := hb4.size
        refine ⟨hl4, H0.out.low q1 (by omega) (fun k hk => (hf4 k (by omega) hk).trans (Below.heap_alloc _ _ _ (by omega))), (q2.trans (BB.alloc hB3 _)).trans hb4, by omega, by simp; omega, q4, q5⟩
      have hme2 := HZ.out.2.1.atOf
      have hj2 := HQ.out.2.2.1
      have hj3 := HQ.out.1.2.1
      clear HQ hl4 hb4 hf4 hli hrn'
      go_wp2
      go_roundw
      case rel => exact ⟨l ++ [(s, t)], j2, HZ⟩
      case measure => rw [hmer, hme2]; omega
end Go.Proofs.YtdlnnnlmlaploaaDoor
