import Derived.Test.YtmfeelkjbpjhdaaKa
import Derived.Test.YtmfeelkjbpjhdaaBs
namespace Go.Proofs.Ytmfeelkjbpjhdaa
open Go.RowKit
/-- the lists of bytes as they are being marked -/
structure AP (w : World) (B : Nat) (S : Nat → Prop) (v : Value) (L L' : List (List UInt8)) (wr : World) : Prop where
  len : L'.length = L.length
  lens : ∀ j, (L'.getD j []).length = (L.getD j []).length
  ob : OB B S wr v L'
  fr : Fr (fun k => ¬ S k) w wr
/-- the first i are marked -/
def mkd (L' : List (List UInt8)) (i : Nat) : Prop := ∀ j, j < i → ∀ t, t < (L'.getD j []).length → byt (L'.getD j []) t = UInt8.ofNat (7 * j + t)
/-- the marks behind a list -/
def mk2 (j n : Nat) : List UInt8 := (List.range n).map fun k => UInt8.ofNat (100 + j + 5 * k)
theorem mk2_succ (j n : Nat) : mk2 j (n + 1) = mk2 j n ++ [UInt8.ofNat (100 + j + 5 * n)] := by simp [mk2, List.range_succ]
theorem mk2_len (j n : Nat) : (mk2 j n).length = n := by simp [mk2]
theorem byt_mk2 (j n k : Nat) (h : k < n) : byt (mk2 j n) k = UInt8.ofNat (100 + j + 5 * k) := by simp [byt, mk2, List.getD, h]
theorem AP.step {w : World} {B : Nat} {S : Nat → Prop} {a : Option Addr} {n c : Nat} {L L' : List (List UInt8)} {wr : World} (h : AP w B S (.slice a n c) L L' wr) (i k : Nat) (hi : i < L.length) (hk : k < (L.getD i []).length) (hm : mkd L' i) (hmi : ∀ t, t < k → byt (L'.getD i []) t = UInt8.ofNat (7 * i + t)) :
    ∃ g0 g m x, a = some ⟨g0, 0, none⟩ ∧ wr.cell? ⟨g0, i, none⟩ = some (.slice (some ⟨g, 0, none⟩) m m) ∧ m = (L.getD i []).length ∧ wr.cell? ⟨g, k, none⟩ = some (.int .u8 x) ∧ wr.frozen? ⟨g, k, none⟩ = false ∧
      ∃ L2, AP w B S (.slice a n c) L L2 (wr.setCell ⟨g, k, none⟩ (.int .u8 ((7 * (i : Int) + (k : Int)) % 256))) ∧ mkd L2 i ∧ ∀ t, t < k + 1 → byt (L2.getD i []) t = UInt8.ofNat (7 * i + t) := by
  obtain ⟨g0, g, m, e, hc, hm', hs, hg, hset⟩ := h.ob.at i (by rw [h.len]; exact hi)
  have hk' : k < (L'.getD i []).length := by rw [h.lens]; exact hk
  have hi' : i < L'.length := by rw [h.len]; exact hi
  refine ⟨g0, g, m, _, e, hc, by rw [hm', h.lens], cell_bc hg k hk', by simp [World.frozen?, hg], L'.set i ((L'.getD i []).set k (UInt8.ofNat (7 * i + k))), ⟨by rw [List.length_set, h.len], fun j => ?_, ?_, h.fr.setCell g k _ (fun x => x hs)⟩, fun j hj t ht => ?_, fun t ht => ?_⟩
  · by_cases hji : j = i
    · subst hji
      rw [← h.lens]
      simp [List.getD, hi']
    · rw [← h.lens]
      simp [List.getD, List.getElem?_set_ne (fun x => hji x.symm)]
  · have := hset k (UInt8.ofNat (7 * i + k))
    rw [u8v] at this
    simpa using this
  · have hji : i ≠ j := by omega
    have e1 : (L'.set i ((L'.getD i []).set k (UInt8.ofNat (7 * i + k)))).getD j [] = L'.getD j [] := by simp [List.getD, List.getElem?_set_ne hji]
    rw [e1] at ht ⊢
    exact hm j hj t ht
  · have e1 : (L'.set i ((L'.getD i []).set k (UInt8.ofNat (7 * i + k)))).getD i [] = (L'.getD i []).set k (UInt8.ofNat (7 * i + k)) := by simp [List.getD, hi']
    rw [e1]
    by_cases htk : t = k
    · subst htk
      unfold byt
      rw [List.getD_eq_getElem?_getD, List.getElem?_set_self hk']
      rfl
    · have := hmi t (by omega)
      rw [← this]
      simp [byt, List.getD, List.getElem?_set_ne (fun x => htk x.symm)]
theorem cellH {w : World} {g j : Nat} {cs : Array Value} {t : TypeId} (h : w.heap[g]? = some (.cells cs t (0, 0))) : w.cell? ⟨g, j, none⟩ = cs[j]? := by simp [World.cell?, h]
theorem cellNew (w : World) (v : Value) (t : TypeId) : (w.alloc (.cells #[v] t)).cell? ⟨w.heap.size, 0, none⟩ = some v := by
  rw [cellH (heapNew w (.cells #[v] t))]
  rfl
set_option maxHeartbeats 4000000 in
set_option maxRecDepth 100000 in
theorem apart (v : Value) (B : Nat) (S : Nat → Prop) (L : List (List UInt8)) (w : World) (h : OB B S w v L) (hB : B ≤ w.heap.size) (hS : ∀ g, S g → B ≤ g) (hn : L.length ≤ 134217728) (hl : ∀ j, (L.getD j []).length ≤ 1048576) :
    Calls Try.prog 12 #[v] w fun e w' => e = .returned (.bool true) ∧ Fr (fun k => ¬ S k) w w' := by
  obtain ⟨a, c, rfl⟩ := h.form
  have HI : Hid (AP w B S (.slice a L.length c) L L w ∧ mkd L 0) := ⟨⟨rfl, fun _ => rfl, h, Fr.refl _ _⟩, fun j hj => absurd hj (Nat.not_lt_zero _)⟩
  have HL : Hid (∀ j, (L.getD j []).length ≤ 1048576) := hl
  have HS : Hid ((∀ g, S g → B ≤ g) ∧ B ≤ w.heap.size) := ⟨hS, hB⟩
  clear h hB hS hl
  generalize hnn : L.length = n at *
  have HN : Hid (L.length = n) := hnn
  clear hnn
  go_enter Try.func12, Try.ntmps12
  go_wp2
  go_loopw [3] (fun t wr => ∃ (i : Nat) (L' : List (List UInt8)), i ≤ n ∧ t = .int .i64 i ∧ Hid (AP w B S (.slice a n c) L L' wr ∧ mkd L' i)) (fun t _ => n - (intOf t).toNat)
  case atStart => exact ⟨0, L, Nat.zero_le _, rfl, HI⟩
  case round =>
    clear HI
    obtain ⟨i, L', hi, rfl, H⟩ := hrel
    by_cases hlt : i < n
    · have hli := HL.out i
      generalize hm : (L.getD i []).length = m at *
      go_wp2
      go_loopw [4] (fun t wr => ∃ (k : Nat) (L2 : List (List UInt8)), k ≤ m ∧ t = .int .i64 k ∧ Hid (AP w B S (.slice a n c) L L2 wr ∧ mkd L2 i ∧ ∀ t, t < k → byt (L2.getD i []) t = UInt8.ofNat (7 * i + t))) (fun t _ => m - (intOf t).toNat)
      case atStart => exact ⟨0, L', Nat.zero_le _, rfl, H.out.1, H.out.2, fun t ht => absurd ht (Nat.not_lt_zero _)⟩
      case round =>
        clear H
        obtain ⟨k, L2, hk, rfl, H2⟩ := hrel
        obtain ⟨g0, g, m', hae, hcell, hm'⟩ : ∃ g0 g m', a = some ⟨g0, 0, none⟩ ∧ wr.cell? ⟨g0, i, none⟩ = some (.slice (some ⟨g, 0, none⟩) m' m') ∧ m' = m := by
          obtain ⟨g0, g, m', e, hc, hm', _⟩ := H2.out.1.ob.at i (by rw [H2.out.1.len, HN.out]; exact hlt)
          exact ⟨g0, g, m', e, hc, by rw [hm', H2.out.1.lens, hm]⟩
        subst hae hm'
        by_cases hkl : k < m'
        · obtain ⟨g0', g', m2, x, e1, e2, e3, e4, e5, L3, e6⟩ := H2.out.1.step i k (by rw [HN.out]; exact hlt) (by rw [hm]; exact hkl) H2.out.2.1 H2.out.2.2
          simp only [Option.some.injEq, Addr.mk.injEq, and_true] at e1
          subst e1
          rw [hcell] at e2
          simp only [Option.some.injEq, Value.slice.injEq, Addr.mk.injEq, and_true] at e2
          obtain ⟨rfl, _⟩ := e2
          have H3 : Hid (AP w B S (.slice (some ⟨g0, 0, none⟩) n c) L L3 (wr.setCell ⟨g, k, none⟩ (.int .u8 ((7 * (i : Int) + (k : Int)) % 256))) ∧ mkd L3 i ∧ ∀ t, t < k + 1 → byt (L3.getD i []) t = UInt8.ofNat (7 * i + t)) := e6
          clear e6 H2 e3
          go_wp2
          exact ⟨⟨k + 1, L3, by omega, by go_num, H3⟩, by simp [intOf]; omega⟩
        · obtain rfl : k = m' := by omega
          have H3 : Hid (AP w B S (.slice (some ⟨g0, 0, none⟩) n c) L L2 wr ∧ mkd L2 (i + 1)) := ⟨H2.out.1, fun j hj t ht => by
            by_cases hji : j = i
            · subst hji
              exact H2.out.2.2 t (by rw [H2.out.1.lens, hm] at ht; exact ht)
            · exact H2.out.2.1 j (by omega) t ht⟩
          clear H2
          go_wp2
          exact ⟨⟨i + 1, L2, by omega, by go_num, H3⟩, by simp [intOf]; omega⟩
    · obtain rfl : i = n := by omega
      obtain ⟨w1, hw1⟩ : ∃ x, x = wr := ⟨_, rfl⟩
      subst hw1
      have hsz := H.out.1.fr.size
      have H1 : Hid (OB B S w1 (.slice a i c) L' ∧ Fr (fun k => ¬ S k) w w1 ∧ L'.length = i ∧ mkd L' i ∧ (∀ j, (L'.getD j []).length ≤ 1048576) ∧ (∀ g, S g → B ≤ g) ∧ B ≤ w1.heap.size) := ⟨H.out.1.ob, H.out.1.fr, H.out.1.len.trans HN.out, H.out.2, fun j => by rw [H.out.1.lens]; exact HL.out j, HS.out.1, Nat.le_trans HS.out.2 hsz⟩
      clear H HL HN HS hsz hlt hi
      go_wp2
      go_loopw [5, 6] (fun mv t w3 => ∃ (j : Nat) (bs : List (List UInt8)) (ma : Option Addr) (mc : Nat), j ≤ i ∧ t = .int .i64 j ∧ mv = .slice ma j mc ∧ Hid (OR w1.heap.size w3 (.slice ma j mc) bs ∧ bs.length = j ∧ (∀ q, q < j → bs.getD q [] = L'.getD q [] ++ mk2 q 70) ∧ Below w1.heap.size w1 w3)) (fun _ t _ => i - (intOf t).toNat)
      case atStart => exact ⟨0, [], none, 0, Nat.zero_le _, rfl, rfl, OR.nil _ _, rfl, fun q hq => absurd hq (Nat.not_lt_zero _), Below.refl _ _⟩
      case round =>
        obtain ⟨j, bs, ma, mc, hj, rfl, rfl, HM⟩ := hrel
        obtain ⟨w3, hw3⟩ : ∃ x, x = wr := ⟨_, rfl⟩
        subst hw3
        by_cases hlt : j < i
        · go_wp2
          go_loopw [7, 8] (fun mv t w4 => ∃ (k : Nat) (ka : Option Addr) (kc : Nat), k ≤ 70 ∧ t = .int .i64 k ∧ mv = .slice ka k kc ∧ Hid (OW w3.heap.size w4 (.slice ka k kc) (mk2 j k) ∧ Below w3.heap.size w3 w4)) (fun _ t _ => 70 - (intOf t).toNat)
          case atStart => exact ⟨0, none, 0, by omega, rfl, rfl, World.ownsRow_nil _ _ _ _, Below.refl _ _⟩
          case round =>
            obtain ⟨k, ka, kc, hk, rfl, rfl, HK⟩ := hrel
            by_cases hkl : k < 70
            · have hcn : (wr.alloc (.cells #[.int .u8 ((100 + (j : Int) + 5 * (k : Int)) % 256)] 5)).cell? ⟨wr.heap.size, 0, none⟩ = some (.int .u8 ((UInt8.ofNat (100 + j + 5 * k)).toNat : Int)) := by
                rw [cellNew, u8v]
                congr 2
              have HA : Hid (OW w3.heap.size (wr.alloc (.cells #[.int .u8 ((100 + (j : Int) + 5 * (k : Int)) % 256)] 5)) (.slice ka k kc) (mk2 j k) ∧ Below w3.heap.size w3 (wr.alloc (.cells #[.int .u8 ((100 + (j : Int) + 5 * (k : Int)) % 256)] 5))) := ⟨HK.out.1.alloc _, HK.out.2.alloc HK.out.2.size _⟩
              have hlk : (mk2 j k).length < 140737488351232 := by rw [mk2_len]; omega
              clear HK HM
              go_wp2_with (first | (at_builtin; refine append_byte rfl _ _ rfl rfl HA.out.1 wr.heap.size _ rfl hcn HA.out.2.size hlk ?_; intro v' w' q1 q2; rw [← mk2_succ] at q1; have HB : Hid (OW w3.heap.size w' v' (mk2 j (k + 1)) ∧ Below w3.heap.size w3 w') := ⟨q1, HA.out.2.trans q2⟩; obtain ⟨va, vc, hv⟩ := q1.form; rw [mk2_len] at hv; subst hv; clear q1 q2 HA hcn))
              exact ⟨⟨k + 1, va, vc, by omega, by go_num, rfl, HB⟩, by simp [intOf]; omega⟩
            · obtain rfl : k = 70 := by omega
              obtain ⟨w4, hw4⟩ : ∃ x, x = wr := ⟨_, rfl⟩
              subst hw4
              have B4 : Below w1.heap.size w1 w4 := HM.out.2.2.2.trans (HK.out.2.mono HM.out.2.2.2.size)
              have hob : OB B S w4 (.slice a i c) L' := H1.out.1.keep (fun k _ hl => B4.block k hl) H1.out.2.2.2.2.2.1 (fun _ x _ => x)
              obtain ⟨g0, g, m, rfl, hcell, rfl, hs, hg, _⟩ := hob.at j (by rw [H1.out.2.2.1]; exact hlt)
              have hml := H1.out.2.2.2.2.1 j
              have HU : Hid (BK S w4 (.slice (some ⟨g, 0, none⟩) (L'.getD j []).length (L'.getD j []).length) (L'.getD j []) ∧ RB w4 (.slice ka 70 kc) (mk2 j 70) ∧ mk2 j 70 ≠ [] ∧ (L'.getD j []).length + (mk2 j 70).length ≤ 16777216) := ⟨⟨g, hs, rfl, hg⟩, HK.out.1.rb, fun e => by have := mk2_len j 70; rw [e] at this; simp at this, by rw [mk2_len]; omega⟩
              have HO : Hid (OR w1.heap.size w4 (.slice ma j mc) bs ∧ Below w1.heap.size w1 w4 ∧ bs.length = j ∧ (∀ q, q < j → bs.getD q [] = L'.getD q [] ++ mk2 q 70)) := ⟨HM.out.1.keep (fun k _ hl => HK.out.2.block k hl), B4, HM.out.2.1, HM.out.2.2.1⟩
              have HX : Hid (∀ (zv : Value) (w5 : World), OW w4.heap.size w5 zv (L'.getD j [] ++ mk2 j 70) → Below w4.heap.size w4 w5 → OR w1.heap.size (w5.alloc (.cells #[zv] 28)) (.slice ma j mc) bs ∧ OW w1.heap.size (w5.alloc (.cells #[zv] 28)) zv (L'.getD j [] ++ mk2 j 70) ∧ Below w1.heap.size w1 (w5.alloc (.cells #[zv] 28))) := fun zv w5 r1 r2 =>
                ⟨(HO.out.1.keep (fun k _ hl => r2.block k hl)).keep (fun k _ hl => heapOld _ _ _ hl), (r1.mono B4.size).alloc _, (B4.trans (r2.mono B4.size)).alloc (Nat.le_trans B4.size r2.size) _⟩
              clear hob hs hg hml HM HK B4
              generalize hlj : (L'.getD j []).length = m at *
              have hbl : bs.length < 1073741824 := by rw [HO.out.2.2.1]; omega
              go_wp2_with (first
                | (at_builtin; refine append_grow rfl _ _ rfl rfl HU.out.1 rfl HU.out.2.1 HU.out.2.2.1 (by have := HU.out.2.2.2; omega) ?_; intro zv w5 r1 r2; have HY := HX.out zv w5 r1 r2; have HZ : Hid (OR w1.heap.size (w5.alloc (.cells #[zv] 28)) (.slice ma j mc) bs ∧ OW w1.heap.size (w5.alloc (.cells #[zv] 28)) zv (L'.getD j [] ++ mk2 j 70) ∧ Below w1.heap.size w1 (w5.alloc (.cells #[zv] 28))) := HY; obtain ⟨za, zn, zc, rfl⟩ := r1.form3; clear r1 r2 HY HX HU)
                | (at_builtin; refine append_own rfl _ _ rfl rfl HZ.out.1 w5.heap.size _ _ rfl (cellNew _ _ _) HZ.out.2.1 HZ.out.2.2.size hbl ?_; intro v' w6 s1 s2; have HW : Hid (OR w1.heap.size w6 v' (bs ++ [L'.getD j [] ++ mk2 j 70]) ∧ Below w1.heap.size w1 w6) := ⟨s1, HZ.out.2.2.trans s2⟩; obtain ⟨va, vc, hv⟩ := s1.form; rw [List.length_append, HO.out.2.2.1] at hv; subst hv; clear s1 s2 HZ))
              refine ⟨⟨j + 1, bs ++ [L'.getD j [] ++ mk2 j 70], va, vc, by omega, by go_num, rfl, HW.out.1, by rw [List.length_append, HO.out.2.2.1]; rfl, fun q hq => ?_, HW.out.2⟩, by simp [intOf]; omega⟩
              by_cases hqj : q = j
              · subst hqj
                rw [List.getD_eq_getElem?_getD, List.getElem?_append_right (by rw [HO.out.2.2.1]; exact Nat.le_refl _), HO.out.2.2.1]
                simp
              · rw [List.getD_eq_getElem?_getD, List.getElem?_append_left (by rw [HO.out.2.2.1]; omega), ← List.getD_eq_getElem?_getD]
                exact HO.out.2.2.2 q (by omega)
        · obtain rfl : j = i := by omega
          have B3 : Below w1.heap.size w1 w3 := HM.out.2.2.2
          have H5 : Hid (OB B S w3 (.slice a j c) L' ∧ OR w1.heap.size w3 (.slice ma j mc) bs ∧ L'.length = j ∧ bs.length = j ∧ mkd L' j ∧ (∀ j, (L'.getD j []).length ≤ 1048576) ∧ (∀ q, q < j → bs.getD q [] = L'.getD q [] ++ mk2 q 70) ∧ Fr (fun k => ¬ S k) w w3) :=
            ⟨H1.out.1.keep (fun k _ hl => B3.block k hl) H1.out.2.2.2.2.2.1 (fun _ x _ => x), HM.out.1, H1.out.2.2.1, HM.out.2.1, H1.out.2.2.2.1, H1.out.2.2.2.2.1, HM.out.2.2.1, H1.out.2.1.trans (Fr.of_below B3) (fun _ _ x => x)⟩
          clear H1 HM B3 hlt hj
          go_wp2
          go_loopw [9] (fun t wr => ∃ (i nq : Nat), i ≤ j ∧ t = .int .i64 i ∧ wr = w3.drewN nq) (fun t _ => j - (intOf t).toNat)
          case atStart => exact ⟨0, 0, Nat.zero_le _, rfl, rfl⟩
          case round =>
            obtain ⟨i, nq, hi, rfl, hw⟩ := hrel
            by_cases hlt : i < j
            · obtain ⟨g0, g, m, rfl, hcell, hm, hs, hg, _⟩ := H5.out.1.at i (by rw [H5.out.2.2.1]; exact hlt)
              obtain ⟨gm, om, ua, uc, rfl, hmc, hmr⟩ := rbs_get H5.out.2.1.rbs i (by rw [H5.out.2.2.2.1]; exact hlt)
              have hml := H5.out.2.2.2.2.2.1 i
              rw [H5.out.2.2.2.2.2.2.1 i hlt] at hmc hmr
              obtain ⟨ug, uo, rfl, hur⟩ : ∃ ug uo, ua = some ⟨ug, uo, none⟩ ∧ ∀ k, k < (L'.getD i [] ++ mk2 i 70).length → w3.cell? ⟨ug, uo + k, none⟩ = some (.int .u8 ((byt (L'.getD i [] ++ mk2 i 70) k).toNat : Int)) := by
                obtain ⟨_, _, e, _, hh⟩ := hmr
                simp only [Value.slice.injEq] at e
                obtain ⟨rfl, _, rfl⟩ := e
                rcases hh with hh | ⟨b, o, rfl, _, hh⟩
                · have := congrArg List.length hh
                  rw [List.length_append, mk2_len] at this
                  simp at this
                · exact ⟨b, o, rfl, hh⟩
              have HA : Hid (∀ k nq, k < m → (w3.drewN nq).cell? ⟨g, k, none⟩ = some (.int .u8 ((7 * (i : Int) + (k : Int)) % 256))) := fun k nq hk => by
                have h1 : w3.cell? ⟨g, k, none⟩ = _ := cell_bc hg k (by omega)
                have h2 := H5.out.2.2.2.2.1 i hlt k (by omega)
                rw [h2, u8v] at h1
                simpa using h1
              have HB : Hid (∀ k nq, k < 70 → (w3.drewN nq).cell? ⟨ug, uo + (m + k), none⟩ = some (.int .u8 ((100 + (i : Int) + 5 * (k : Int)) % 256))) := fun k nq hk => by
                have h1 := hur (m + k) (by rw [List.length_append, mk2_len]; omega)
                rw [byt_right _ _ _ (by omega), hm, Nat.add_sub_cancel_left, byt_mk2 i 70 k hk, u8v] at h1
                rw [hm]
                simpa using h1
              have hc0 : ∀ nq, (w3.drewN nq).cell? ⟨g0, i, none⟩ = some (.slice (some ⟨g, 0, none⟩) m m) := fun nq => hcell
              have hc1 : ∀ nq, (w3.drewN nq).cell? ⟨gm, om + i, none⟩ = some (.slice (some ⟨ug, uo, none⟩) (m + 70) uc) := fun nq => by
                have := hmc w3 (Below.refl _ _)
                rw [List.length_append, mk2_len, ← hm] at this
                exact this
              have hm2 : m ≤ 1048576 := by omega
              subst hw
              have q0 := hc0 nq
              clear hcell hs hg hmc hmr hur hml hm
              go_wp2
              go_loopw [11] (fun t wr => ∃ (k nq : Nat), k ≤ m ∧ t = .int .i64 k ∧ wr = w3.drewN nq) (fun t _ => m - (intOf t).toNat)
              case atStart => exact ⟨0, _, Nat.zero_le _, rfl, rfl⟩
              case round =>
                clear q0
                obtain ⟨k, nq, hk, rfl, hw⟩ := hrel
                by_cases hkl : k < m
                · have q0 := hc0 nq
                  have q1 := HA.out k nq hkl
                  rw [← hw] at q0 q1
                  have HW : Hid (wr = w3.drewN nq) := hw
                  clear hw hc0 hc1
                  go_wp2
                  exact ⟨⟨k + 1, nq, by omega, by go_num, HW.out⟩, by simp [intOf]; omega⟩
                · have HW : Hid (wr = w3.drewN nq) := hw
                  clear hw hc0
                  go_wp2
                  go_loopw [12] (fun t wr => ∃ (k nq : Nat), k ≤ 70 ∧ t = .int .i64 k ∧ wr = w3.drewN nq) (fun t _ => 70 - (intOf t).toNat)
                  case atStart => exact ⟨0, _, Nat.zero_le _, rfl, HW.out⟩
                  case round =>
                    clear HW
                    obtain ⟨k, nq, hk, rfl, hw⟩ := hrel
                    by_cases hkl : k < 70
                    · have q0 := hc1 nq
                      have q1 := HB.out k nq hkl
                      rw [← hw] at q0 q1
                      have HW : Hid (wr = w3.drewN nq) := hw
                      clear hw hc1
                      go_wp2
                      exact ⟨⟨k + 1, nq, by omega, by go_num, HW.out⟩, by simp [intOf]; omega⟩
                    · have HW : Hid (wr = w3.drewN nq) := hw
                      clear hw hc1
                      go_wp2
                      exact ⟨⟨i + 1, nq, by omega, by go_num, HW.out⟩, by simp [intOf]; omega⟩
            · obtain rfl : i = j := by omega
              have HE : Hid (Fr (fun k => ¬ S k) w wr) := by rw [hw]; exact H5.out.2.2.2.2.2.2.2.trans (Fr.of_below (belowDrew _ _)) (fun _ _ x => x)
              clear H5 hw
              go_wp2
              go_ret
              exact ⟨rfl, HE.out⟩
end Go.Proofs.Ytmfeelkjbpjhdaa
