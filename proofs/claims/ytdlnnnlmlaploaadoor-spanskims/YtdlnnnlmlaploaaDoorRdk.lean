import Derived.Test.YtdlnnnlmlaploaaDoorRdt
namespace Go.Proofs.YtdlnnnlmlaploaaDoor
open Go.RowKit Go.Deep
def lastK (l : List (ByteArray × T)) : ByteArray := (l.getLastD (ByteArray.empty, .no)).1
/-- a key behind the entries l -/
def keyP (b : List UInt8) (l : List (ByteArray × T)) (i : Nat) : Pc ByteArray :=
  match strg b i with
  | .bad p e => .bad p e
  | .ok s j => if l ≠ [] ∧ leB s (lastK l) = true then .bad i 25 else .ok s j
theorem strg_nodig {b : List UInt8} {i : Nat} (hi : i < b.length) (hd : dig (byt b i) = false) : strg b i = .bad i 22 := by
  have hr : run b i = 0 := by
    rcases Nat.eq_zero_or_pos (run b i) with h | h
    · exact h
    · have := (run_lt h).2
      simp only [Nat.add_zero] at this
      rw [hd] at this; cases this
  have hdg : digs b 58 i = .bad i 22 := by
    unfold digs
    rw [hr, if_neg (by omega), if_pos (.inl rfl)]
    rfl
  unfold strg
  rw [hdg]
theorem keyy_eq {b : List UInt8} {f : Fr} {r : List Fr} {i : Nat} (hi : i < b.length) : keyy b f r i = match keyP b f.ps i with
    | .bad p e => .bad p e
    | .ok s j => .go ({ f with key := s, has := true } :: r) j := by
  unfold keyy keyP
  by_cases hd : dig (byt b i) = false
  · rw [if_pos hd, strg_nodig hi hd]
  · rw [if_neg hd]
    cases strg b i with
    | bad p e => rfl
    | ok s j =>
      dsimp only
      show (if f.ps ≠ [] ∧ leB s (lastK f.ps) = true then Out.bad i 25 else Out.go ({ f with key := s, has := true } :: r) j) = _
      by_cases h : f.ps ≠ [] ∧ leB s (lastK f.ps) = true
      · rw [if_pos h, if_pos h]
      · rw [if_neg h, if_neg h]
theorem DI.last {B : Nat} {w : World} {g cap n : Nat} {l : List (ByteArray × T)} (h : DI B w (.slice (some ⟨g, 0, none⟩) n cap) l) (hn : l ≠ []) : w.cell? ⟨g, (l.length - 1) * 2, none⟩ = some (.string (lastK l)) := by
  obtain ⟨us, g', q1, q2, q3⟩ := h
  obtain ⟨cap', _, hc⟩ := own_form q1 q2
  cases q2
  have hl : 0 < l.length := List.length_pos_iff.2 hn
  obtain ⟨u, g0, _⟩ := q3 (l.length - 1) (by omega)
  have := hc _ _ g0
  rw [this]
  unfold lastK
  rw [List.getLastD_eq_getLast?, List.getLast?_eq_getElem?]
  rfl
set_option maxRecDepth 10000 in
set_option maxHeartbeats 1000000 in
theorem key56 (rb : Nat) (a : Option Addr) (c : Nat) (b : List UInt8) (i B g cap : Nat) (l : List (ByteArray × T)) (w : World) (h : RR rb w a c b i) (hd : DI B w (.slice (some ⟨g, 0, none⟩) l.length cap) l) (hrb : rb < B) (hlen : l.length ≤ 1048576) :
    Calls Tryd.prog 93 #[.pointer (some ⟨rb, 0, none⟩), .slice (some ⟨g, 0, none⟩) l.length cap] w fun e w' => pcEnd (keyP b l i) rb w w' a c b (fun s => .string s) e := by
  obtain ⟨c0, c1, f1⟩ := h.cells
  have HR := Lib.hid h
  have HD := Lib.hid hd
  clear h hd
  go_enter Tryd.func93, Tryd.ntmps93
  go_wp2_with fail
  clear c0 c1 f1
  refine (word47 rb a c b i w HR.out).mono ?_
  intro e w1 hp
  obtain ⟨hb1, ⟨s, j, hd, rfl, hr1⟩ | ⟨p, er, hd, rfl⟩⟩ := hp.cases
  case inr => exact ⟨rfl, pcEnd.bad (by rw [keyP, hd]) hb1⟩
  have HK : Hid (keyP b l i = if l ≠ [] ∧ leB s (lastK l) = true then .bad i 25 else .ok s j) := Lib.hid (by rw [keyP, hd])
  have H1 : Hid (RR rb w1 a c b j ∧ Besides rb w w1) := ⟨hr1, hb1⟩
  by_cases hn : l = []
  · have HE : Hid (keyP b l i = .ok s j) := Lib.hid (by rw [HK.out, if_neg (by simp [hn])])
    have hz : (l.length : Int) = 0 := by simp [hn]
    clear hp hb1 hd hr1 HK HD hn
    rw [show l.length = 0 from by omega]
    go_wp2
    go_ret
    exact pcEnd.ok HE.out H1.out.2 H1.out.1
  · have hlp : 0 < l.length := List.length_pos_iff.2 hn
    have hcell := (HD.out.keep hb1.size (fun x h1 h2 => hb1.block x h2 (by omega))).last hn
    clear hp hb1 hd hr1 HD
    obtain ⟨m, hm⟩ : ∃ m, l.length = m + 1 := ⟨l.length - 1, by omega⟩
    rw [hm] at hcell ⊢
    simp only [Nat.add_sub_cancel] at hcell
    have m0 : (0 : Int) ≤ (m : Int) := by omega
    have m1 : (m : Int) ≤ 1048576 := by omega
    have HL : Hid (l ≠ []) := hn
    clear hn hm hlp hlen
    cases hle : leB s (lastK l) with
    | true =>
      have HE : Hid (keyP b l i = .bad i 25) := Lib.hid (by rw [HK.out, if_pos ⟨HL.out, hle⟩])
      have hle' : (Op.bytesLess s.toList (lastK l).toList || s.toList == (lastK l).toList) = true := hle
      clear hle HK
      cases h1 : Op.bytesLess s.toList (lastK l).toList with
      | true =>
        clear hle'
        go_wp2_with fail
        refine (giveUp44 rb _ _ _).mono ?_
        rintro e w' ⟨rfl, rfl⟩
        exact ⟨rfl, pcEnd.bad HE.out H1.out.2⟩
      | false =>
        rw [h1, Bool.false_or] at hle'
        go_wp2_with fail
        refine (giveUp44 rb _ _ _).mono ?_
        rintro e w' ⟨rfl, rfl⟩
        exact ⟨rfl, pcEnd.bad HE.out H1.out.2⟩
    | false =>
      have HE : Hid (keyP b l i = .ok s j) := Lib.hid (by rw [HK.out, if_neg (by simp [hle])])
      have hle' : (Op.bytesLess s.toList (lastK l).toList || s.toList == (lastK l).toList) = false := hle
      clear hle HK
      go_wp2
      go_ret
      exact pcEnd.ok HE.out H1.out.2 H1.out.1
end Go.Proofs.YtdlnnnlmlaploaaDoor
