import Derived.Test.YtglknmelcianjaaDm
namespace Go.Proofs.Ytglknmelcianjaa
open Go.RowKit
set_option maxHeartbeats 1000000 in
theorem clone (v : Value) (l : List UInt8) (w : World) (hr : RB w v l) (hl : l.length ≤ 140737488351232) :
    Calls Try.prog 15 #[v] w fun e w' => ∃ v', e = .returned v' ∧ OW w.heap.size w' v' l ∧ Below w.heap.size w w' := by
  have HR : Hid (RB w v l) := hr
  obtain ⟨a, c, rfl, _, hr⟩ := hr
  cases a with
  | none =>
    rcases hr with rfl | ⟨g, o, h, _⟩
    · have hq := fun u : World => Lib.run_eql_slice_nil (P := Try.prog) u 27 5 none 0 c 0 0 Try.underlying27
      clear HR
      go_enter Try.func15, Try.ntmps15
      go_wp2
      go_ret
      exact ⟨_, rfl, World.ownsRow_nil _ _ _ _, Below.refl _ _⟩
    · cases h
  | some x =>
    have hq := fun u : World => Lib.run_eql_slice_nil (P := Try.prog) u 27 5 (some x) l.length c 0 0 Try.underlying27
    clear hr
    have hb0 : Below w.heap.size w (w.alloc (.cells #[] 5)) := (Below.refl _ _).alloc (Nat.le_refl _) _
    have HO : Hid (OW w.heap.size (w.alloc (.cells #[] 5)) (.slice (some ⟨w.heap.size, 0, none⟩) 0 0) [] ∧ RB (w.alloc (.cells #[] 5)) (.slice (some x) l.length c) l ∧ Below w.heap.size w (w.alloc (.cells #[] 5))) :=
      ⟨World.ownsRow_lit w #[] 0 (Nat.le_refl _) (Nat.zero_le _) rfl, HR.out.keep hb0, hb0⟩
    clear hb0
    go_enter Try.func15, Try.ntmps15
    go_wp2_with (at_builtin; refine append_bytes rfl _ _ rfl rfl HO.out.1 rfl HO.out.2.1 (by simp) (by simpa using hl) ?_; intro v' w1 ho1 hb1)
    rw [List.nil_append] at ho1
    obtain ⟨a', c', rfl⟩ := ho1.form
    go_ret
    exact ⟨_, rfl, ho1, HO.out.2.2.trans hb1⟩
/-- a new disk in memory -/
theorem dk_new (w : World) (lb cap : Nat) (l : List UInt8) (hw : OW 0 w (.slice (some ⟨lb, 0, none⟩) l.length cap) l) (hg : Gd ⟨l, [], none⟩) :
    DK (fun k => k = lb ∨ w.heap.size ≤ k) ((w.alloc (.map #[] 0)).alloc (.cells #[.slice (some ⟨lb, 0, none⟩) l.length cap, .map (some w.heap.size), .slice none 0 0, .bool false, .int .i64 0] 55 (0, 0))) (w.heap.size + 1) ⟨l, [], none⟩ := by
  have hb : Below w.heap.size w ((w.alloc (.map #[] 0)).alloc (.cells #[.slice (some ⟨lb, 0, none⟩) l.length cap, .map (some w.heap.size), .slice none 0 0, .bool false, .int .i64 0] 55 (0, 0))) := ((Below.refl _ _).alloc (Nat.le_refl _) _).alloc (by simp) _
  have e1 : (w.alloc (.map #[] 0)).heap.size = w.heap.size + 1 := by simp
  refine ⟨lb, cap, w.heap.size, .slice none 0 0, .map [], fun _ => .slice none 0 0, ?_, ?_, ?_, ?_, ?_, ?_, ?_, ?_, ?_, ?_, ?_, ?_, ?_, ?_, hg⟩
  · rw [← e1]; exact heapNew _ _
  · exact ownsRow_fr (S := fun _ => True) hw (Fr.of_below hb) (fun _ _ => trivial)
  · exact (World.ownsMap_made w Try.prog 3 idR).alloc _
  · exact World.ownsRow_nil _ _ _ _
  · intro kl h; simp [Maps.has] at h
  · intro s d h; simp [nw] at h
  · intro s; exact World.ownsRow_nil _ _ _ _
  · intro _ _; rfl
  · intro s t g _ h; simp [Value.ownBlock] at h
  · exact .inr (by omega)
  · exact .inl rfl
  · exact .inr (Nat.le_refl _)
  · intro g h; simp [Value.ownBlock] at h
  · intro s g h; simp [Value.ownBlock] at h
set_option maxHeartbeats 1000000 in
theorem holding (w : World) (lb cap : Nat) (l : List UInt8) (hw : OW 0 w (.slice (some ⟨lb, 0, none⟩) l.length cap) l) (hg : Gd ⟨l, [], none⟩) :
    Calls Try.prog 14 #[.slice (some ⟨lb, 0, none⟩) l.length cap] w fun e w' => ∃ p, e = .returned (.pointer (some ⟨p, 0, none⟩)) ∧ w.heap.size ≤ p ∧ DK (fun k => k = lb ∨ w.heap.size ≤ k) w' p ⟨l, [], none⟩ ∧ Below w.heap.size w w' := by
  have HD := dk_new w lb cap l hw hg
  have HD' : Hid (DK (fun k => k = lb ∨ w.heap.size ≤ k) ((w.alloc (.map #[] 0)).alloc (.cells #[.slice (some ⟨lb, 0, none⟩) l.length cap, .map (some w.heap.size), .slice none 0 0, .bool false, .int .i64 0] 55 (0, 0))) (w.heap.size + 1) ⟨l, [], none⟩) := HD
  clear HD hw hg
  have hmm := fun u : World => run_makeMap (P := Try.prog) 51 u
  go_enter Try.func14, Try.ntmps14
  go_wp2
  go_ret
  exact ⟨_, rfl, by omega, HD'.out, ((Below.refl _ _).alloc (Nat.le_refl _) _).alloc (by simp) _⟩
/-- a new disk was answered -/
def NewE (w : World) (l : List UInt8) (e : Ending) (w' : World) : Prop :=
  ∃ p, e = .returned (.tuple #[.pointer (some ⟨p, 0, none⟩), .int .i64 0]) ∧ w.heap.size ≤ p ∧ DK (fun k => w.heap.size ≤ k) w' p ⟨l, [], none⟩ ∧ Below w.heap.size w w'
theorem gd_new (l : List UInt8) (h1 : l.length % 64 = 0) (h2 : 64 ≤ l.length) (h3 : l.length ≤ 4194304) : Gd ⟨l, [], none⟩ := ⟨h1, h2, h3, fun x hx => by simp at hx, fun k h => by cases h⟩
theorem make_sec (n : Nat) (hn : n ≤ 65536) (u : World) : (Instr.makeSlice 27 (.int .i64 ((n : Int) * 64)) (.int .i64 ((n : Int) * 64))).run Try.prog u =
      .ok (.slice (some ⟨u.heap.size, 0, none⟩) (64 * n) (64 * n)) (u.alloc (.cells (bc (zr (64 * n))) 5)) := by
  have := make_bytes (64 * n) (by omega) u
  rwa [show ((64 * n : Nat) : Int) = (n : Int) * 64 by omega] at this
set_option maxHeartbeats 1000000 in
theorem new_ok (n : Nat) (w : World) (h1 : 1 ≤ n) (h2 : n ≤ 65536) : Calls Try.prog 4 #[.int .i64 n] w (NewE w (zr (64 * n))) := by
  have hmk := make_sec n h2
  have hO : OW w.heap.size (w.alloc (.cells (bc (zr (64 * n))) 5)) (.slice (some ⟨w.heap.size, 0, none⟩) (zr (64 * n)).length (64 * n)) (zr (64 * n)) :=
    OW.of_block (Nat.le_refl _) (heapNew _ _) (by rw [zr_len]) (by simp) (Nat.le_refl _) (by rw [zr_len]; unfold maxLen; omega)
  have HH := holding _ _ _ _ (hO.mono (Nat.zero_le _)) (gd_new _ (by rw [zr_len]; omega) (by rw [zr_len]; omega) (by rw [zr_len]; omega))
  rw [zr_len] at HH
  have HB : Hid (Below w.heap.size w (w.alloc (.cells (bc (zr (64 * n))) 5)) ∧ (w.alloc (.cells (bc (zr (64 * n))) 5)).heap.size = w.heap.size + 1) := ⟨(Below.refl _ _).alloc (Nat.le_refl _) _, by simp⟩
  have HH' := Lib.hid HH
  clear HH hO
  generalize hz : bc (zr (64 * n)) = cs at *
  clear hz
  go_enter Try.func4, Try.ntmps4
  go_wp2_with fail
  refine HH'.out.mono ?_
  rintro e w1 ⟨p, rfl, hp, hd, hb⟩
  have hfin : NewE w (zr (64 * n)) (.returned (.tuple #[.pointer (some ⟨p, 0, none⟩), .int .i64 0])) w1 := by
    refine ⟨p, rfl, by have := HB.out.2; omega, hd.sub (fun k _ hk => ?_), HB.out.1.trans (hb.mono (by have := HB.out.2; omega))⟩
    rcases hk with rfl | hk
    · exact Nat.le_refl _
    · have := HB.out.2; omega
  have HF := Lib.hid hfin
  clear hfin hd hb HB HH'
  go_wp2
  go_ret2
  exact HF.out
set_option maxHeartbeats 1000000 in
theorem new_no (n : Int) (w : World) (h : n < 1 ∨ 65536 < n) : Calls Try.prog 4 #[.int .i64 n] w fun e w' => e = .returned (.tuple #[.pointer none, .int .i64 120]) ∧ w' = w := by
  rcases h with h | h
  · go_enter Try.func4, Try.ntmps4
    go_wp2
    go_ret2
    exact ⟨rfl, rfl⟩
  · have h' : ¬ n < 1 := by omega
    go_enter Try.func4, Try.ntmps4
    go_wp2
    go_ret2
    exact ⟨rfl, rfl⟩
set_option maxHeartbeats 1000000 in
theorem load_ok (v : Value) (l : List UInt8) (w : World) (hr : RB w v l) (h1 : l.length % 64 = 0) (h2 : 64 ≤ l.length) (h3 : l.length ≤ 4194304) : Calls Try.prog 7 #[v] w (NewE w l) := by
  have HC := Lib.hid (clone v l w hr (by omega))
  have HG : Hid (Gd ⟨l, [], none⟩) := gd_new l h1 h2 h3
  have H0 : Hid (l ≠ []) := fun e => by rw [e] at h2; simp at h2
  obtain ⟨a, c, rfl, _, _⟩ := hr
  have HN : Hid (l.length = l.length) := rfl
  generalize hn : l.length = n at *
  have HL : Hid (l.length = n) := hn
  clear hn HN
  have hm : (n : Int) % 64 = 0 := by omega
  have hn0 : ((n : Int) == 0) = false := by simp; omega
  have hn4 : decide (4194304 < (n : Int)) = false := by simp; omega
  go_enter Try.func7, Try.ntmps7
  go_wp2_with fail
  refine HC.out.mono ?_
  rintro e w1 ⟨v1, rfl, ho, hb⟩
  have ho2 := ho
  obtain ⟨b, cap, hv⟩ : ∃ b cap, v1 = .slice (some ⟨b, 0, none⟩) l.length cap ∧ w.heap.size ≤ b := by
    rcases ho.2 with ⟨_, h0⟩ | ⟨g, cap, _, h1, h2, _⟩
    · exact absurd (List.length_eq_zero_iff.1 h0) H0.out
    · exact ⟨g, cap, h1, h2⟩
  obtain ⟨hv, hB⟩ := hv
  subst hv
  have HH := holding w1 b cap l (ho2.mono (Nat.zero_le _)) HG.out
  rw [HL.out] at HH
  have HH' := Lib.hid HH
  have HB : Hid (Below w.heap.size w w1) := hb
  clear HH ho ho2 hb HC
  rw [HL.out]
  go_wp2_with fail
  refine HH'.out.mono ?_
  rintro e w2 ⟨p, rfl, hp, hd, hb⟩
  have hs := HB.out.size
  have hfin : NewE w l (.returned (.tuple #[.pointer (some ⟨p, 0, none⟩), .int .i64 0])) w2 := by
    refine ⟨p, rfl, by omega, hd.sub (fun k _ hk => ?_), HB.out.trans (hb.mono hs)⟩
    rcases hk with rfl | hk <;> omega
  have HF := Lib.hid hfin
  clear hfin hd hb HB HH'
  go_wp2
  go_ret2
  exact HF.out
end Go.Proofs.Ytglknmelcianjaa
