import Derived.Test.YtfpokhcddjgfmabDoorSg
namespace Go.Proofs.YtfpokhcddjgfmabDoor
open Go.RowKit
theorem join_one' (x : ByteArray) : Lib.join ([x].map (·.data.toList)) [47] = x.data.toList := by simp [Lib.join_one]
theorem join_two (x y : ByteArray) (r : List ByteArray) : Lib.join ((x :: y :: r).map (·.data.toList)) [47] = x.data.toList ++ 47 :: Lib.join ((y :: r).map (·.data.toList)) [47] := by
  rw [List.map_cons, Lib.join_cons, List.map_cons, Lib.join_cons]; simp [Lib.joinTail]
def slash : ByteArray := ⟨#[47]⟩
theorem ua_slash : ua slash 0 = -1 := ua_ascii slash (by decide) 1 0 (by decide)
theorem jo_two (x y : ByteArray) (r : List ByteArray) : jo (x :: y :: r) = x ++ (slash ++ jo (y :: r)) := ba_ext' (by
  rw [dl_append, dl_append]; show Lib.join _ _ = _ ++ ([47] ++ Lib.join _ _); rw [join_two]; rfl)
theorem ua_jo : ∀ l : List ByteArray, l.length ≠ 0 → (∀ s ∈ l, ua s 0 = -1) → ua (jo l) 0 = -1
  | [], h, _ => by simp at h
  | [x], _, h => by
    have : jo [x] = x := ba_ext' (join_one' x)
    rw [this]; exact h x (by simp)
  | x :: y :: r, _, h => by
    have ih := ua_jo (y :: r) (by simp) fun s hs => h s (List.mem_cons_of_mem _ hs)
    rw [jo_two, ua_app (h x (by simp)), ua_app ua_slash, ih]; rfl
/-- the d-th name begins at f -/
def Iv (l : List ByteArray) (t : ByteArray) (d f : Nat) : Prop := ∃ A : List UInt8, A.length = f ∧ t.data.toList = A ++ Lib.join ((l.drop d).map (·.data.toList)) [47]
theorem iv0 (l : List ByteArray) : Iv l (jo l) 0 0 := ⟨[], rfl, rfl⟩
theorem mid_cut (A X B : List UInt8) : ((A ++ (X ++ B)).take (A.length + X.length)).drop A.length = X := by
  rw [← List.append_assoc, List.take_left' (by simp), List.drop_left]
theorem len_data (s : ByteArray) : s.data.toList.length = s.size := by simp
theorem iv_last {l : List ByteArray} {t : ByteArray} {d f : Nat} (h : Iv l t d f) (hd : d + 1 = l.length) : f + (sa l d).size = t.size ∧ t.extract f (f + (sa l d).size) = sa l d ∧ ∀ k, k < (sa l d).size → bt t (f + k) = bt (sa l d) k := by
  obtain ⟨A, rfl, h⟩ := h
  rw [sa_drop (by omega), List.drop_of_length_le (by omega), join_one'] at h
  have hl : t.size = A.length + (sa l d).size := by have := congrArg List.length h; rw [List.length_append, len_data, len_data] at this; exact this
  refine ⟨hl.symm, ba_ext' ?_, fun k hk => ?_⟩
  · have := mid_cut A (sa l d).data.toList []
    rw [List.append_nil, len_data] at this
    rw [ext_data, h]; exact this
  · rw [bt_list, bt_list, h, List.getElem?_append_right (by omega)]; simp
theorem iv_mid {l : List ByteArray} {t : ByteArray} {d f : Nat} (h : Iv l t d f) (hd : d + 1 < l.length) : (f + (sa l d).size < t.size ∧ bt t (f + (sa l d).size) = 47 ∧ Iv l t (d + 1) (f + (sa l d).size + 1)) ∧ t.extract f (f + (sa l d).size) = sa l d ∧ ∀ k, k < (sa l d).size → bt t (f + k) = bt (sa l d) k := by
  obtain ⟨A, rfl, h⟩ := h
  rw [sa_drop (by omega), sa_drop hd, join_two, ← sa_drop hd] at h
  have hl : t.size = A.length + ((sa l d).size + ((Lib.join ((l.drop (d + 1)).map (·.data.toList)) [47]).length + 1)) := by
    have := congrArg List.length h; rw [List.length_append, List.length_append, List.length_cons, len_data, len_data] at this; exact this
  refine ⟨⟨by omega, ?_, A ++ (sa l d).data.toList ++ [47], by rw [List.length_append, List.length_append, len_data]; rfl, by rw [h]; simp⟩, ba_ext' ?_, fun k hk => ?_⟩
  · rw [bt_list, h, List.getElem?_append_right (by omega), List.getElem?_append_right (by rw [len_data]; omega), len_data, Nat.add_sub_cancel_left, Nat.sub_self]; rfl
  · have := mid_cut A (sa l d).data.toList (47 :: Lib.join ((l.drop (d + 1)).map (·.data.toList)) [47])
    rw [len_data] at this
    rw [ext_data, h]; exact this
  · rw [bt_list, bt_list, h, List.getElem?_append_right (by omega), List.getElem?_append_left (by rw [len_data]; omega), Nat.add_sub_cancel_left]
theorem nameB {s : ByteArray} (h : ce s = 0) : (s.toList == []) = false ∧ (s.toList == [46]) = false ∧ (s.toList == [46, 46]) = false ∧ s.size ≤ 255 ∧ ∀ k, k < s.size → 32 ≤ bt s k ∧ bt s k ≠ 127 ∧ bt s k ≠ 92 ∧ bt s k ≠ 47 := by
  obtain ⟨h0, h1, _, h3, h4⟩ := ce_inv h
  unfold dots at h3
  refine ⟨nilB' h0, ?_, ?_, h1, fun k hk => ?_⟩
  · cases e : (s.toList == [46]) <;> simp_all
  · cases e : (s.toList == [46, 46]) <;> simp_all
  · have hb : bb (bt s k) = false := by
      cases e : bb (bt s k) with
      | false => rfl
      | true => exact absurd ⟨k, hk, e⟩ h4
    refine ⟨?_, ?_, ?_, ?_⟩
    · exact Classical.byContradiction fun e => by rw [bb_yes (.inl (by omega))] at hb; cases hb
    · intro e; rw [e] at hb; cases hb
    · intro e; rw [e] at hb; cases hb
    · intro e; rw [e] at hb; cases hb
set_option maxRecDepth 100000 in
set_option maxHeartbeats 1000000 in
theorem harmless15 (s : ByteArray) (w : World) (h : ce s = 0) : Calls Tryd.prog 15 #[.string s] w fun e w' => e = .returned (.bool true) ∧ w' = w := by
  obtain ⟨n0, n1, n2, hs, hk⟩ := nameB h
  have HK : Hid (∀ k, k < s.size → 32 ≤ bt s k ∧ bt s k ≠ 127 ∧ bt s k ≠ 92 ∧ bt s k ≠ 47) := hk
  clear hk h
  go_enter Tryd.func15, Tryd.ntmps15
  go_wp2
  go_loop [3] (fun i => ∃ (pos : Nat), i = .int .i64 pos ∧ pos ≤ s.size) (fun i => s.size - (intOf i).toNat)
  case atStart => exact ⟨0, rfl, Nat.zero_le _⟩
  case round =>
    obtain ⟨pos, rfl, hb⟩ := hrel
    by_cases hp : pos < s.size
    · have hbb := (s[pos]'hp).toNat_lt
      have HE : Hid ((s[pos]'hp).toNat = bt s pos) := getE hp
      have HX : Hid (32 ≤ (s[pos]'hp).toNat ∧ (s[pos]'hp).toNat ≠ 127 ∧ (s[pos]'hp).toNat ≠ 92 ∧ (s[pos]'hp).toNat ≠ 47) := by rw [HE.out]; exact HK.out pos hp
      generalize hbk : (s[pos]'hp).toNat = b at *
      have g1 : ¬ (b : Int) < 32 := by have := HX.out.1; omega
      have g2 : ((b : Int) == 127) = false := beq_eq_false_iff_ne.2 (by have := HX.out.2.1; omega)
      have g3 : ((b : Int) == 92) = false := beq_eq_false_iff_ne.2 (by have := HX.out.2.2.1; omega)
      go_wp2
      exact ⟨⟨pos + 1, by go_num, by omega⟩, by simp [intOf]; omega⟩
    · go_wp2
      go_ret
      exact ⟨rfl, rfl⟩
set_option maxRecDepth 100000 in
set_option maxHeartbeats 2000000 in
theorem below6n (v : Value) (l : List ByteArray) (w : World) (hf : FL l) (hr : SR w l v) (h1 : ¬ pe l = 0) :
    Calls Tryd.prog 6 #[v] w fun e w' => e = .returned (.bool true) ∧ Below w.heap.size w w' := by
  have HR : Hid (SR w l v) := hr
  obtain ⟨va, vc, rfl, _, _⟩ := hr
  have HJ : Hid (∀ v w, SR w l v → Calls Tryd.prog 12 #[v] w fun e w' => e = .returned (.tuple #[.string ⟨#[]⟩, .int .i64 (pe l)]) ∧ Below w.heap.size w w') := joinNo h1 hf
  have hz1 : (pe l == 0) = false := beq_eq_false_iff_ne.2 h1
  generalize pe l = z1 at *
  clear h1 hf
  go_enter Tryd.func6, Tryd.ntmps6
  go_wp2_with fail
  refine (awake11 _).mono ?_
  rintro e w1 ⟨rfl, hb1⟩
  have R1 : Hid (SR w1 l _) := HR.out.keep hb1
  have B1 : Hid (Below w.heap.size w w1) := hb1
  clear hb1 HR
  go_wp2_with fail
  refine (HJ.out _ _ R1.out).mono ?_
  rintro e w2 ⟨rfl, hb2⟩
  have B2 : Hid (Below w.heap.size w w2) := B1.out.trans (hb2.mono B1.out.size)
  clear hb2 R1 B1
  go_wp2_with fail
  refine (num13 _ _).mono ?_
  rintro e wx ⟨rfl, rfl⟩
  go_wp2
  go_ret
  exact ⟨rfl, B2.out⟩
set_option maxRecDepth 100000 in
set_option maxHeartbeats 4000000 in
theorem below6y (v : Value) (l : List ByteArray) (w : World) (hf : FL l) (hr : SR w l v) (h1 : pe l = 0) :
    Calls Tryd.prog 6 #[v] w fun e w' => e = .returned (.bool true) ∧ Below w.heap.size w w' := by
  have HR : Hid (SR w l v) := hr
  obtain ⟨va, vc, rfl, _, _⟩ := hr
  have HJ : Hid (∀ v w, SR w l v → Calls Tryd.prog 12 #[v] w fun e w' => e = .returned (.tuple #[.string (jo l), .int .i64 0]) ∧ Below w.heap.size w w') := joinOk h1 hf
  obtain ⟨q0, q1, q2⟩ := pe_ok h1
  have HC : Hid (∀ d, d < l.length → ce (sa l d) = 0) := fun d hd => q2 _ (sa_mem hd)
  have HU : Hid (∀ w, Calls Tryd.prog 14 #[.string (jo l)] w fun e w' => e = .returned (.int .i64 (-1)) ∧ Below w.heap.size w w') := fun w => by
    have := utfB (jo l) w (by have := jo_size h1; unfold maxLen; omega)
    rw [ua_jo l q0 fun s hs => (ce_inv (q2 s hs)).2.2.1] at this
    exact this
  have HI : Hid (Iv l (jo l) 0 0) := iv0 l
  have ht := jo_size h1
  generalize jo l = t at *
  generalize hN : l.length = N at *
  have HN : Hid (l.length = N) := hN
  clear h1 hf q2 hN
  go_enter Tryd.func6, Tryd.ntmps6
  go_wp2_with fail
  refine (awake11 _).mono ?_
  rintro e w1 ⟨rfl, hb1⟩
  have R1 : Hid (SR w1 l _) := HR.out.keep hb1
  have B1 : Hid (Below w.heap.size w w1) := hb1
  clear hb1 HR
  go_wp2_with fail
  refine (HJ.out _ _ R1.out).mono ?_
  rintro e w2 ⟨rfl, hb2⟩
  have B2 : Hid (Below w.heap.size w w2) := B1.out.trans (hb2.mono B1.out.size)
  clear hb2 R1 B1
  go_wp2_with fail
  refine (num13 _ _).mono ?_
  rintro e wx ⟨rfl, rfl⟩
  go_wp2
  go_loop [6, 7, 8] (fun dp fr it => ∃ d f i : Nat, dp = .int .i64 d ∧ fr = .int .i64 f ∧ it = .int .i64 i ∧ d ≤ N ∧ i ≤ t.size + 1 ∧ Hid ((d < N ∧ Iv l t d f ∧ ∃ k, i = f + k ∧ k ≤ (sa l d).size) ∨ (d = N ∧ i = t.size + 1))) (fun _ _ it => t.size + 2 - (intOf it).toNat)
  case atStart => exact ⟨0, 0, 0, rfl, rfl, rfl, Nat.zero_le _, Nat.zero_le _, .inl ⟨by omega, HI.out, 0, rfl, Nat.zero_le _⟩⟩
  case round =>
    obtain ⟨d, f, i, rfl, rfl, rfl, hd, hi, HD⟩ := hrel
    rcases HD.out with ⟨hdN, hIv, k, hik, hks⟩ | ⟨rfl, hiz⟩
    · have hcd := HC.out d hdN
      obtain ⟨_, _, _, _, hbytes⟩ := nameB hcd
      have all : t.extract f (f + (sa l d).size) = sa l d ∧ (∀ k, k < (sa l d).size → bt t (f + k) = bt (sa l d) k) ∧ f + (sa l d).size ≤ t.size := by
        by_cases hl : d + 1 = l.length
        · obtain ⟨a, b, c⟩ := iv_last hIv hl; exact ⟨b, c, by omega⟩
        · obtain ⟨⟨a, _⟩, b, c⟩ := iv_mid hIv (by have := HN.out; omega); exact ⟨b, c, by omega⟩
      by_cases hk : k < (sa l d).size
      · have hp : i < t.size := by omega
        have HE : Hid ((t[i]'hp).toNat = bt t i) := getE hp
        have HX : Hid ((t[i]'hp).toNat ≠ 47) := by rw [HE.out, hik, all.2.1 k hk]; exact (hbytes k hk).2.2.2
        have hbb := (t[i]'hp).toNat_lt
        have HR : Hid ((d < N ∧ Iv l t d f ∧ ∃ k, i + 1 = f + k ∧ k ≤ (sa l d).size) ∨ (d = N ∧ i + 1 = t.size + 1)) := .inl ⟨hdN, hIv, k + 1, by omega, by omega⟩
        generalize hbk : (t[i]'hp).toNat = b at *
        have g2 : ((b : Int) == 47) = false := beq_eq_false_iff_ne.2 (by have := HX.out; omega)
        clear all hbytes hcd hIv hik hks hk HD HI
        go_wp2
        exact ⟨⟨d, f, i + 1, rfl, rfl, by go_num, hd, by omega, HR⟩, by simp [intOf]; omega⟩
      · have hfi : f ≤ i := by omega
        have hit : i ≤ t.size := by omega
        have HP : Hid (t.extract f i = sa l d) := by rw [hik, show k = (sa l d).size by omega]; exact all.1
        have HH : Hid (∀ w, Calls Tryd.prog 15 #[.string (t.extract f i)] w fun e w' => e = .returned (.bool true) ∧ w' = w) := fun w => by rw [HP.out]; exact harmless15 _ w hcd
        have HR : Hid ((d + 1 < N ∧ Iv l t (d + 1) (i + 1) ∧ ∃ k, i + 1 = i + 1 + k ∧ k ≤ (sa l (d + 1)).size) ∨ (d + 1 = N ∧ i + 1 = t.size + 1)) := by
          by_cases hl : d + 1 = l.length
          · obtain ⟨a, _⟩ := iv_last hIv hl
            exact .inr ⟨by have := HN.out; omega, by omega⟩
          · obtain ⟨⟨_, _, a⟩, _⟩ := iv_mid hIv (by have := HN.out; omega)
            rw [show f + (sa l d).size + 1 = i + 1 by omega] at a
            exact .inl ⟨by have := HN.out; omega, a, 0, rfl, Nat.zero_le _⟩
        by_cases hl : i < t.size
        · have hmid : bt t i = 47 := by
            have : ¬ d + 1 = l.length := fun e => by obtain ⟨a, _⟩ := iv_last hIv e; omega
            obtain ⟨⟨_, a, _⟩, _⟩ := iv_mid hIv (by have := HN.out; omega)
            rw [show i = f + (sa l d).size by omega]; exact a
          have HE : Hid ((t[i]'hl).toNat = 47) := (getE hl).trans hmid
          generalize hbk : (t[i]'hl).toNat = b at *
          obtain rfl : b = 47 := HE.out
          clear all hbytes hcd hIv hik hks hk HD HI hmid
          go_wp2_with fail
          refine (HH.out _).mono ?_
          rintro e w' ⟨rfl, rfl⟩
          go_wp2
          exact ⟨⟨d + 1, i + 1, i + 1, by go_num, by go_num, by go_num, by omega, by omega, HR⟩, by simp [intOf]; omega⟩
        · clear all hbytes hcd hIv hik hks hk HD HI
          go_wp2_with fail
          refine (HH.out _).mono ?_
          rintro e w' ⟨rfl, rfl⟩
          go_wp2
          exact ⟨⟨d + 1, i + 1, i + 1, by go_num, by go_num, by go_num, by omega, by omega, HR⟩, by simp [intOf]; omega⟩
    · have hgt : ¬ i ≤ t.size := by omega
      have d1 : 1 ≤ d := by omega
      clear HD HI
      go_wp2_with fail
      refine (HU.out _).mono ?_
      rintro e w' ⟨rfl, hb3⟩
      have B3 : Hid (Below w.heap.size w w') := B2.out.trans (hb3.mono B2.out.size)
      clear hb3 B2
      go_wp2
      go_ret
      exact ⟨by simp, B3.out⟩
theorem below6 (v : Value) (l : List ByteArray) (w : World) (hf : FL l) (hr : SR w l v) :
    Calls Tryd.prog 6 #[v] w fun e w' => e = .returned (.bool true) ∧ Below w.heap.size w w' := by
  by_cases h : pe l = 0
  · exact below6y v l w hf hr h
  · exact below6n v l w hf hr h
end Go.Proofs.YtfpokhcddjgfmabDoor
