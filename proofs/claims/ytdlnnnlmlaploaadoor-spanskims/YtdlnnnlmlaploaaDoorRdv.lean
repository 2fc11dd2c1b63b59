import Derived.Test.YtdlnnnlmlaploaaDoorRdt
namespace Go.Proofs.YtdlnnnlmlaploaaDoor
open Go.RowKit Go.Deep
theorem step_list {b : List UInt8} {st : List Fr} {l : List T} {j : Nat} (hj : j < b.length) (hx : byt b j = 101) : step b ({ d := false, ls := l } :: st) j = deliver st (tList l) (j + 1) := by
  unfold step; rw [if_neg (by omega)]
  dsimp only
  rw [if_neg (by simp), if_pos ⟨rfl, hx⟩]
  rfl
set_option maxRecDepth 10000 in
set_option maxHeartbeats 2000000 in
theorem list48 (b : List UInt8) (N : Nat) (ih : VVc b N) (rb : Nat) (a : Option Addr) (c : Nat) (st : List Fr) (i : Nat) (w : World) (hN : b.length - i ≤ N) (h : RR rb w a c b i) (hi : i < b.length) (hst : st.length < 32) (hrd : ready b st i) (hx : byt b i = 108) :
    Calls Tryd.prog 82 #[.pointer (some ⟨rb, 0, none⟩), .int .i64 (st.length : Int)] w fun e w' => valEnd b st i rb w w' a c (.iface 102) e := by
  obtain ⟨c0, c1, f1⟩ := h.cells
  have hl := h.2.2.2.1
  have hrb : rb < w.heap.size := h.1.1.lt
  have HI := Lib.hid ih
  have H0 := Lib.hid h
  have HR1 : Hid (Run b (.go st i) (.go ({ d := false } :: st) (i + 1))) := Lib.hid (Run.one (by rw [step_ready hrd hi, opn, if_pos hx, if_neg (by omega)]))
  have HN : Hid (RR rb ((w.setCell ⟨rb, 1, none⟩ (.int .i64 ((i : Int) + 1))).alloc (Obj.cells #[] 89)) a c b (i + 1) ∧ BB w.heap.size rb w ((w.setCell ⟨rb, 1, none⟩ (.int .i64 ((i : Int) + 1))).alloc (Obj.cells #[] 89)) ∧ LI w.heap.size ((w.setCell ⟨rb, 1, none⟩ (.int .i64 ((i : Int) + 1))).alloc (Obj.cells #[] 89)) (.slice (some ⟨w.heap.size, 0, none⟩) 0 0) []) := by
    have e : (w.setCell ⟨rb, 1, none⟩ (.int .i64 ((i : Int) + 1))).heap.size = w.heap.size := by simp [World.setCell]
    have hs := h.set (i + 1) (by omega)
    refine ⟨hs.heap ((Below.refl _ _).alloc (Nat.le_refl _) _), (BB.of (Besides.refl rb w).set1 (Nat.le_refl _)).trans (BB.alloc (by rw [e]; exact Nat.le_refl _) _), LI.nil (Nat.le_refl _) ?_⟩
    have := heap_new (w.setCell ⟨rb, 1, none⟩ (.int .i64 ((i : Int) + 1))) (Obj.cells #[] 89)
    rw [e] at this
    exact this
  clear h ih hrd hx
  go_enter Tryd.func82, Tryd.ntmps82
  go_wp2
  clear c0 c1 f1
  generalize (w.setCell ⟨rb, 1, none⟩ (.int .i64 ((i : Int) + 1))).alloc (Obj.cells #[] 89) = w1 at *
  go_loopw [5] (fun v wr => ∃ (l : List T) (j : Nat), Hid (LI w.heap.size wr v l ∧ RR rb wr a c b j ∧ BB w.heap.size rb w wr ∧ i < j ∧ l.length ≤ j ∧ (∀ k, k < l.length → TOK (l.getD k .no)) ∧ Run b (.go st i) (.go ({ d := false, ls := l } :: st) j))) (fun _ wr => b.length - atOf wr rb)
  case atStart => exact ⟨[], i + 1, HN.out.2.2, HN.out.1, HN.out.2.1, Nat.lt_succ_self _, Nat.zero_le _, fun k hk => absurd hk (Nat.not_lt_zero _), HR1.out⟩
  case round =>
    clear HN HR1
    obtain ⟨l, j, HO⟩ := hrel
    have hmer := HO.out.2.1.atOf
    have hjn := HO.out.2.1.2.1
    have hij := HO.out.2.2.2.1
    have hlj := HO.out.2.2.2.2.1
    go_wp2_with fail
    refine (next43 rb a c b j wr HO.out.2.1).mono ?_
    rintro e w2 ⟨hb1, ⟨hlt, rfl⟩ | ⟨heq, rfl⟩⟩
    case inr =>
      rw [heq]
      exact ⟨rfl, valEnd.bad (BB.besides (HO.out.2.2.1.trans (BB.of (Besides.of_below hb1) HO.out.2.2.1.size))) (HO.out.2.2.2.2.2.2.trans (Run.one (step_end (by omega))))⟩
    have HP : Hid (LI w.heap.size w2 u5 l ∧ RR rb w2 a c b j ∧ BB w.heap.size rb w w2 ∧ (∀ k, k < l.length → TOK (l.getD k .no)) ∧ Run b (.go st i) (.go ({ d := false, ls := l } :: st) j)) :=
      ⟨HO.out.1.keep hb1.size (fun x _ hx => hb1.block x hx), HO.out.2.1.heap hb1, HO.out.2.2.1.trans (BB.of (Besides.of_below hb1) HO.out.2.2.1.size), HO.out.2.2.2.2.2.1, HO.out.2.2.2.2.2.2⟩
    clear HO hb1
    obtain ⟨g, cap, rfl⟩ : ∃ g cap, u5 = .slice (some ⟨g, 0, none⟩) l.length cap := by
      obtain ⟨us, g, q1, q2, _⟩ := HP.out.1
      obtain ⟨cap, rfl, _⟩ := own_form q1 q2
      exact ⟨g, cap, rfl⟩
    by_cases hx : byt b j = 101
    · rw [hx]
      obtain ⟨c0, c1, f1⟩ := HP.out.2.1.cells
      have HE : Hid (valEnd b st i rb w (w2.setCell ⟨rb, 1, none⟩ (.int .i64 ((j : Int) + 1))) a c (.iface 102) (.returned (.slice (some ⟨g, 0, none⟩) l.length cap))) := by
        obtain ⟨q1, q2, q3, q4, q5⟩ := HP.out
        have e : (w2.setCell ⟨rb, 1, none⟩ (.int .i64 ((j : Int) + 1))).heap.size = w2.heap.size := by simp [World.setCell]
        exact Lib.hid (valEnd.ok (BB.besides (q3.trans (BB.of (Besides.refl rb w2).set1 q3.size))) (LI.keep q1 (by rw [e]; exact Nat.le_refl _) (fun x hx _ => Below.heap_setCell _ _ _ _ (by show x ≠ rb; omega))).node (q2.set (j + 1) (by omega)) (by omega) (q5.trans (Run.one (step_list hlt hx))) (tok_list l (by omega) q4))
      clear HP
      go_wp2
      go_ret
      exact HE.out
    · have hz : ((byt b j).toNat : Int) ≠ 101 := u8_ne hx
      have HV := HI.out rb a c ({ d := false, ls := l } :: st) j w2 (by omega) HP.out.2.1 (by simp; omega) (.inr ⟨rfl, hlt, hx⟩)
      rw [show ((({ d := false, ls := l } : Fr) :: st).length : Int) = (st.length : Int) + 1 from by simp] at HV
      have HVH := Lib.hid HV
      clear HV
      go_wp2_with fail
      refine HVH.out.mono ?_
      clear HVH
      rintro e w3 ⟨hb3, ⟨t, u, j2, rfl, hrn, hrr, hlt2, hrun, htok⟩ | ⟨p, er, rfl, hrun⟩⟩
      case inr => exact ⟨rfl, valEnd.bad (BB.besides (HP.out.2.2.1.trans (BB.of hb3 HP.out.2.2.1.size))) (HP.out.2.2.2.2.trans hrun)⟩
      obtain ⟨ty, uu, rfl⟩ := hrn.iface
      have hB3 : w.heap.size ≤ w3.heap.size := Nat.le_trans HP.out.2.2.1.size hb3.size
      have hli : LI w.heap.size (w3.alloc (Obj.cells #[.iface ty uu] 89)) (.slice (some ⟨g, 0, none⟩) l.length cap) l :=
        (HP.out.1.keep hb3.size (fun x hx1 hx2 => hb3.block x hx2 (by omega))).keep (by simp) (fun x _ hx2 => Below.heap_alloc _ _ _ hx2)
      have hrn' : RN (fun x => w.heap.size ≤ x ∧ some x ≠ (Value.slice (some ⟨g, 0, none⟩) l.length cap).ownBlock) (w3.alloc (Obj.cells #[.iface ty uu] 89)) t (.iface ty uu) := by
        obtain ⟨us, g', q1, q2, _⟩ := HP.out.1
        have q3 := own_lt q1 q2
        cases q2
        refine RN.move (fun x hx _ => ⟨Nat.le_trans HP.out.2.2.1.size hx, fun e => ?_⟩) (by simp) (fun x _ hx2 => Below.heap_alloc _ _ _ hx2) _ _ hrn
        have h5 : x = g := by cases e; rfl
        have h6 : g < w2.heap.size := q3.2
        omega
      have HQ : Hid (RR rb w3 a c b j2 ∧ BB w.heap.size rb w w3 ∧ j < j2 ∧ (∀ k, k < (l ++ [t]).length → TOK ((l ++ [t]).getD k .no)) ∧ Run b (.go st i) (.go ({ d := false, ls := l ++ [t] } :: st) j2)) := by
        obtain ⟨_, _, q3, q4, q5⟩ := HP.out
        refine ⟨hrr, q3.trans (BB.of hb3 q3.size), hlt2, fun k hk => ?_, q5.trans hrun⟩
        by_cases e : k < l.length
        · rw [getD_snoc_lt _ _ _ e]; exact q4 k e
        · obtain rfl : k = l.length := by simp at hk; omega
          rw [getD_snoc_eq]; exact htok
      have hll : l.length ≤ 2097152 := by omega
      clear hrn hrr hrun htok hb3 HP
      go_wp2_with (at_builtin; refine append_node (rb := rb) (B := w.heap.size) (t := t) rfl _ _ rfl rfl hli _ (.iface ty uu) rfl (by go_simp) hrn' (by simp; omega) hll ?_)
      intro v' w4 hl4 hb4 hf4
      have HZ : Hid (LI w.heap.size w4 v' (l ++ [t]) ∧ RR rb w4 a c b j2 ∧ BB w.heap.size rb w w4 ∧ i < j2 ∧ (l ++ [t]).length ≤ j2 ∧ (∀ k, k < (l ++ [t]).length → TOK ((l ++ [t]).getD k .no)) ∧ Run b (.go st i) (.go ({ d := false, ls := l ++ [t] } :: st) j2)) := by
        obtain ⟨q1, q2, q3, q4, q5⟩ := HQ.out
        have hz5 : (w3.alloc (Obj.cells #[.iface ty uu] 89)).heap.size = w3.heap.size + 1 := by simp
        have hz6 := hb4.size
        refine ⟨hl4, H0.out.low q1 (by omega) (fun k hk => (hf4 k (by omega) hk).trans (Below.heap_alloc _ _ _ (by omega))), (q2.trans (BB.alloc hB3 _)).trans hb4, by omega, by simp; omega, q4, q5⟩
      have hme2 := HZ.out.2.1.atOf
      have hj2 := HQ.out.2.2.1
      have hj3 := HQ.out.1.2.1
      clear HQ hl4 hb4 hf4 hli hrn'
      go_wp2
      go_roundw
      case rel => exact ⟨l ++ [t], j2, HZ⟩
      case measure => rw [hmer, hme2]; omega
end Go.Proofs.YtdlnnnlmlaploaaDoor
