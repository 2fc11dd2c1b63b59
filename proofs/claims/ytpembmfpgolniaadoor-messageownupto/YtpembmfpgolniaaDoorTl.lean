import Derived.Test.YtpembmfpgolniaaDoorTk
namespace Go.Proofs.YtpembmfpgolniaaDoor
open Go.RowKit
theorem cut_root (m : Mv) (ok : m.ok) (L : List Value) : (m.cs.toList.take 5 ++ L ++ m.cs.toList.drop (5 + 32)).toArray = ([.int .i64 m.k, .int .i64 m.i, .int .i64 m.b, .int .i64 m.l, m.d] ++ (L ++ [.int .i64 m.ba, .int .i64 m.pr, m.h])).toArray := by
  have h1 : m.cs.toList.take 5 = [.int .i64 m.k, .int .i64 m.i, .int .i64 m.b, .int .i64 m.l, m.d] := rfl
  have h2 : m.cs.toList.drop (5 + 32) = [.int .i64 m.ba, .int .i64 m.pr, m.h] := by
    show m.ls.drop (5 + 32) = _
    unfold Mv.ls
    rw [← List.append_assoc]
    exact List.drop_left' (by simp [bcl_len, ok.r])
  rw [h1, h2, List.append_assoc]
set_option maxHeartbeats 1000000 in
theorem r3T (W w : World) (g : Nat) (m : Mv) (ok : m.ok) (hm : MB w g m) (v : Value) (l : List UInt8) (hl : 32 ≤ l.length) (hl2 : l.length ≤ 140737488351232) (hr : RB W v l) (hW : Below W.heap.size W w) :
    Calls Tryd.prog 68 #[ptr g, v] w fun e w' => ∃ v', e = .returned v' ∧ RB W v' (l.drop 32) ∧ w' = w.setRow g { m with r := l.take 32 }.cs := by
  obtain ⟨b, o, c, rfl, hc, h⟩ := hr.from 32 hl (by omega)
  obtain ⟨b', o', c', e, _, hcell⟩ := (hr.keep hW).cells (by omega)
  simp only [Value.slice.injEq, Option.some.injEq, Addr.mk.injEq, true_and, and_true] at e
  obtain ⟨⟨rfl, rfl⟩, rfl⟩ := e
  have l32 : (l.take 32).length = 32 := by rw [List.length_take]; omega
  have hcp : (Builtin.copy_ #[22, 22] 3 #[.slice (some ⟨g, 5, none⟩) 32 32, .slice (some ⟨b, o, none⟩) l.length c]).run Tryd.prog w = .ok (goInt 32) (w.setRow g { m with r := l.take 32 }.cs) := by
    have h1 := run_copy_row (P := Tryd.prog) w 22 22 3 5 g 5 32 32 ⟨b, o, none⟩ l.length c m.cs 27 (Lib.byteCells (l.take 32)) Tryd.underlying22 hs5 hm (by rw [bcl_len, l32]; exact (Nat.min_eq_right hl).symm)
      (fun j y hj => by
        have hj' : j < 32 := by
          have := (List.getElem?_eq_some_iff.1 hj).1
          rwa [bcl_len, l32] at this
        rw [Addr.add_mid, hcell j (by omega), ← hj, bcl_get _ j (by omega), byt_take _ _ _ hj'])
      (by rw [bcl_len, l32, ok.size]; omega) (Lib.byteCells_one _)
    rw [h1, bcl_len, l32, cut_root m ok]
    rfl
  have HR : Hid (RB W (.slice (some ⟨b, o + 32, none⟩) (l.length - 32) (c - 32)) (l.drop 32)) := h
  clear h hr hcell hm l32 hW
  generalize Mv.cs _ = M2 at *
  generalize hln : l.length = n at *
  have HLE : Hid (l.length = n) := hln
  clear hln
  by_cases hck : c = 32
  · subst hck
    have HZ : Hid (l.drop 32 = []) := List.drop_eq_nil_of_le (by have := HLE.out; omega)
    generalize hdr : l.drop 32 = LD at *
    go_enter Tryd.func68, Tryd.ntmps68
    go_wp2
    go_ret
    exact ⟨_, rfl, RB.empty HZ.out (by first | rfl | omega), rfl⟩
  · generalize hdr : l.drop 32 = LD at *
    go_enter Tryd.func68, Tryd.ntmps68
    go_wp2
    go_ret
    exact ⟨_, rfl, HR.out, rfl⟩
/-- the kind that a body says it is of -/
def kindB (l : List UInt8) : Int := if l = [] then -1 else if 64 ≤ (byt l 0).toNat then 1000 else ((byt l 0).toNat : Int)
set_option maxHeartbeats 1000000 in
theorem kindOfT (w : World) (v : Value) (l : List UInt8) (hl2 : l.length ≤ 140737488351232) (hr : RB w v l) :
    Calls Tryd.prog 18 #[v] w fun e w' => e = .returned (.int .i64 (kindB l)) ∧ w' = w := by
  by_cases h0 : l = []
  · subst h0
    obtain ⟨a, c, rfl, _⟩ := hr
    go_enter Tryd.func18, Tryd.ntmps18
    go_wp2
    go_ret
    exact ⟨rfl, rfl⟩
  · have hpos : 0 < l.length := List.length_pos_iff.2 h0
    obtain ⟨b, o, c, rfl, _, hc⟩ := hr.cells hpos
    have c0 : w.cell? ⟨b, o, none⟩ = some (.int .u8 ((byt l 0).toNat : Int)) := hc 0 hpos
    have hb := UInt8.toNat_lt (byt l 0)
    by_cases h64 : 64 ≤ (byt l 0).toNat
    · have HK : Hid (kindB l = 1000) := by unfold Hid kindB; rw [if_neg h0, if_pos h64]
      clear hc hr h0
      generalize (byt l 0).toNat = y at *
      generalize hln : l.length = n at *
      clear hln
      go_enter Tryd.func18, Tryd.ntmps18
      go_wp2
      go_ret
      exact ⟨by rw [HK.out]; rfl, rfl⟩
    · have HK : Hid (kindB l = ((byt l 0).toNat : Int)) := by unfold Hid kindB; rw [if_neg h0, if_neg h64]
      clear hc hr h0
      generalize (byt l 0).toNat = y at *
      generalize hln : l.length = n at *
      clear hln
      go_enter Tryd.func18, Tryd.ntmps18
      go_wp2
      go_ret
      exact ⟨by rw [HK.out]; rfl, rfl⟩
end Go.Proofs.YtpembmfpgolniaaDoor
