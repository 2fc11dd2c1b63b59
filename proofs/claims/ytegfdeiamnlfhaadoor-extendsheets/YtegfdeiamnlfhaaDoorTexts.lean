import Derived.Test.YtegfdeiamnlfhaaDoorText
namespace Go.Proofs.YtegfdeiamnlfhaaDoor
open Go.RowKit Go.Deep
def mth (ty : TypeId) : Nat := if ty = 59 then 74 else if ty = 60 then 78 else if ty = 62 then 79 else 80
theorem NB.keep {B : Nat} {w w' : World} (h : BW B w w') {b : Nat} (hn : NB w b) (hl : b < w.heap.size) : w'.heap[b]? = w.heap[b]? := by
  have e : w.heap[b]? = some w.heap[b] := Array.getElem?_eq_getElem hl
  rw [e]
  exact h.2 b _ e (by simp) (fun c fz hc => hn c fz (by rw [e, hc]))
def TC (t : T) : Prop := ∀ (B : Nat) (ty : TypeId) (u sv : Value) (l : List UInt8) (w : World), RN (NB w) w t (.iface ty u) → t.rng → OW B w sv l → B ≤ w.heap.size → TB B w → l.length + (txt t).length ≤ 100000000000000 →
  Calls Tryd.prog (mth ty) #[u, sv] w fun e w' => ∃ v', e = .returned v' ∧ OW B w' v' (l ++ txt t) ∧ BW B w w'
theorem RN.keepB {B : Nat} {w w' : World} {t : T} {v : Value} (h : RN (NB w) w t v) (hb : BW B w w') : RN (NB w') w' t v :=
  RN.move (fun b hn hl c fz => by rw [NB.keep hb hn hl]; exact hn c fz) hb.1.size (fun b hn hl => NB.keep hb hn hl) _ _ h
theorem RN.ty {S : Nat → Prop} {w : World} {t : T} {ty : TypeId} {u : Value} (h : RN S w t (.iface ty u)) : ty = 59 ∨ ty = 60 ∨ ty = 62 ∨ ty = 65 := by
  cases t with
  | no => exact h.elim
  | mk k n s ln l dn ky dv =>
    rcases h with ⟨_, h⟩ | ⟨_, h⟩ | ⟨_, b, c, h, _⟩ | ⟨_, b, c, h, _⟩ <;> cases h
    · exact .inl rfl
    · exact .inr (.inl rfl)
    · exact .inr (.inr (.inl rfl))
    · exact .inr (.inr (.inr rfl))
theorem meth55 (u : Value) (w : World) : Sem.run Tryd.prog (method 213 59 u "torrent/bencode.text") w = .ok (74, u) w := by kernel_rfl
theorem meth56 (u : Value) (w : World) : Sem.run Tryd.prog (method 213 60 u "torrent/bencode.text") w = .ok (78, u) w := by kernel_rfl
theorem meth58 (u : Value) (w : World) : Sem.run Tryd.prog (method 213 62 u "torrent/bencode.text") w = .ok (79, u) w := by kernel_rfl
theorem meth61 (u : Value) (w : World) : Sem.run Tryd.prog (method 213 65 u "torrent/bencode.text") w = .ok (80, u) w := by kernel_rfl
theorem catN_le {f : Nat → List UInt8} : ∀ {n j : Nat}, j < n → (catN f j).length + (f j).length ≤ (catN f n).length
  | 0, _, h => absurd h (Nat.not_lt_zero _)
  | n + 1, j, h => by
    show _ ≤ (catN f n ++ f n).length
    rw [List.length_append]
    rcases Nat.lt_succ_iff_lt_or_eq.1 h with h | rfl
    · have := catN_le (f := f) h; omega
    · exact Nat.le_refl _
set_option maxRecDepth 10000 in
set_option maxHeartbeats 1000000 in
theorem list101 (ln : Nat) (ch : Nat → T) (ih : ∀ i, TC (ch i)) (B b c : Nat) (sv : Value) (l : List UInt8) (w : World) (hb : NB w b) (hbl : b < w.heap.size) (hel : ∀ i, i < ln → ∃ u, w.cell? ⟨b, i, none⟩ = some u ∧ RN (NB w) w (ch i) u) (hrng : ∀ i, i < ln → (ch i).rng) (hln : ln ≤ 2147483647)
    (hown : OW B w sv l) (hB : B ≤ w.heap.size) (hT : TB B w) (hlim : l.length + (catN (fun i => txt (ch i)) ln).length + 2 ≤ 100000000000000) :
    Calls Tryd.prog 79 #[.slice (some ⟨b, 0, none⟩) ln c, sv] w fun e w' => ∃ v', e = .returned v' ∧ OW B w' v' (l ++ 108 :: (catN (fun i => txt (ch i)) ln ++ [101])) ∧ BW B w w' := by
  have HC : Hid ((∀ i, TC (ch i)) ∧ ∀ i, i < ln → ∃ u, w.cell? ⟨b, i, none⟩ = some u ∧ RN (NB w) w (ch i) u) := ⟨ih, hel⟩
  clear ih hel
  go_enter Tryd.func79, Tryd.ntmps79
  go_wp2_with (at_builtin; refine append_byte rfl _ _ rfl rfl (hown.alloc _) w.heap.size 108 rfl (by go_simp) (by simp; omega) (by omega) ?_)
  intro v1 w1 ho1 hb1
  have hb1' : BW B w w1 := ((BW.refl B w).alloc hB _).trans hb1
  have hB1 : B ≤ w1.heap.size := Nat.le_trans hB hb1'.1.size
  clear hb1
  go_wp2
  go_loopw [1, 12] (fun o i wr => ∃ (j : Nat), j ≤ ln ∧ i = .int .i64 j ∧ Hid (OW B wr o (l ++ 108 :: catN (fun i => txt (ch i)) j) ∧ BW B w wr)) (fun _ i _ => ln - (intOf i).toNat)
  case atStart => exact ⟨0, Nat.zero_le _, rfl, ho1, hb1'⟩
  case round =>
    clear ho1 hb1' hB1
    obtain ⟨j, hj, rfl, HO⟩ := hrel
    by_cases hlt : j < ln
    · obtain ⟨u0, g0, g1⟩ := HC.out.2 j hlt
      obtain ⟨ty, u, rfl⟩ := g1.iface
      have g0' := (World.cell?_of_block (w := w) (NB.keep HO.out.2 hb hbl)).trans g0
      clear g0
      have j0 : (0 : Int) ≤ (j : Int) := by omega
      have j1 : (j : Int) < (ln : Int) := by omega
      have hty := g1.ty
      have hle := catN_le (f := fun i => txt (ch i)) hlt
      have HX := Lib.hid (HC.out.1 j B ty u _ _ _ (RN.keepB g1 HO.out.2) (hrng j hlt) HO.out.1 (Nat.le_trans hB HO.out.2.1.size) (hT.on HO.out.2.1) (by simp only [List.length_append, List.length_cons]; omega))
      have hrestX : ∀ w2 v2, OW B w2 v2 ((l ++ 108 :: catN (fun i => txt (ch i)) j) ++ txt (ch j)) → BW B _ w2 → Hid (OW B w2 v2 (l ++ 108 :: catN (fun i => txt (ch i)) (j + 1)) ∧ BW B w w2) := fun w2 v2 q1 q2 => ⟨by simpa [catN] using q1, HO.out.2.trans q2⟩
      have HRX := Lib.hid hrestX
      clear HO g1 hrestX hle
      have m1 := meth55
      have m2 := meth56
      have m3 := meth58
      have m4 := meth61
      rcases hty with rfl | rfl | rfl | rfl
      all_goals
        go_wp2_with fail
        refine HX.out.mono ?_
        rintro e w2 ⟨v2, rfl, q1, q2⟩
        have HN := HRX.out w2 v2 q1 q2
        clear q1 q2 HX HRX m1 m2 m3 m4
        go_wp2
        go_roundw
        case rel => exact ⟨j + 1, by omega, by go_num, HN⟩
        case measure => simp [intOf]; omega
    · obtain rfl : j = ln := by omega
      obtain ⟨ho, hbw⟩ := HO.out
      have hB2 := Nat.le_trans hB hbw.1.size
      have HBW := Lib.hid hbw
      clear hbw
      go_wp2_with (at_builtin; refine append_byte rfl _ _ rfl rfl (ho.alloc _) _ 101 rfl (by go_simp) (by simp; omega) (by simp; omega) ?_)
      intro v3 w3 ho3 hb3
      go_wp2
      go_ret
      exact ⟨v3, rfl, by simpa using ho3, (HBW.out.alloc hB2 _).trans hb3⟩
end Go.Proofs.YtegfdeiamnlfhaaDoor
