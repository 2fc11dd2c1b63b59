import Derived.Test.YtegfdeiamnlfhaaDoorBase
import Derived.Deep.RegionHeld3
namespace Go.Proofs.YtegfdeiamnlfhaaDoor.Bs
open Go.RowKit
set_option maxHeartbeats 400000 in
theorem copied_nil (cap : Nat) (w : World) :
    Calls Tryd.prog 4 #[.slice none 0 cap] w fun e w' => e = .returned (.slice none 0 0) ∧ w = w' := by
  have hq := fun u : World => Lib.run_eql_slice_nil (P := Tryd.prog) u 22 5 none 0 cap 0 0 Tryd.underlying22
  go_enter Tryd.func4, Tryd.ntmps4
  go_wp2
  go_ret
  exact ⟨rfl, rfl⟩
set_option maxHeartbeats 1000000 in
theorem copied_some (x : Addr) (cap : Nat) (l : List UInt8) (w : World) (hl : l.length ≤ 140737488351232) (hr : RB w (.slice (some x) l.length cap) l) :
    Calls Tryd.prog 4 #[.slice (some x) l.length cap] w fun e w' => ∃ v, e = .returned v ∧ OW w.heap.size w' v l ∧ Below w.heap.size w w' := by
  obtain ⟨i0, hi, hz0, hz1, hz2⟩ := info_parts info5
  have hq := fun u : World => Lib.run_eql_slice_nil (P := Tryd.prog) u 22 5 (some x) l.length cap 0 0 Tryd.underlying22
  have hmk : ∀ u : World, (Instr.makeSlice 22 (.int .i64 0) (.int .i64 (l.length : Int))).run Tryd.prog u =
      .ok (.slice (some ⟨u.heap.size, 0, none⟩) 0 l.length) (u.alloc (.cells (madeCells #[.int .u8 0] l.length) 5)) := fun u => by
    have h := run_make (P := Tryd.prog) u 22 5 i0 (.int .u8 0) Tryd.underlying22 hi hz0 .i64 .i64 0 (l.length : Int) (by omega) (by omega) (by rw [hz2]; omega) (by omega)
    simpa [hz1, Value.cells] using h
  have HR : Hid (RB w (.slice (some x) l.length cap) l) := hr
  clear hr hi hz0 hz1 hz2
  go_enter Tryd.func4, Tryd.ntmps4
  go_wp2
  go_loopw [3, 4] (fun v t wr => ∃ (k : Nat) (a : Option Addr) (cp : Nat), k ≤ l.length ∧ t = .int .i64 k ∧ v = .slice a k cp ∧ OW w.heap.size wr v (l.take k) ∧ Below w.heap.size w wr) (fun _ t _ => l.length - (intOf t).toNat)
  case atStart => exact ⟨0, _, _, Nat.zero_le _, rfl, rfl, World.ownsRow_made w _ l.length (Nat.le_refl _) (by unfold maxLen; omega) (by simp [size_madeCells]), (Below.refl _ _).alloc (Nat.le_refl _) _⟩
  case round =>
    obtain ⟨k, a, cp, hk, rfl, rfl, hown, hbel⟩ := hrel
    clear hmk
    by_cases hlt : k < l.length
    · obtain ⟨_, _, hx, _, hx2⟩ := HR.out
      rcases hx2 with hnil | ⟨b, off, hx3, hb, hc⟩
      · rw [hnil] at hlt; simp at hlt
      · simp only [Value.slice.injEq] at hx
        rw [← hx.1] at hx3
        simp only [Option.some.injEq] at hx3
        subst hx3
        have hck : wr.cell? ⟨b, off + k, none⟩ = some (.int .u8 ((byt l k).toNat : Int)) := (hbel.cell (p := ⟨b, off + k, none⟩) hb).trans (hc k hlt)
        have HT : Hid (l.take (k + 1) = l.take k ++ [byt l k] ∧ (l.take k).length < 140737488351232) := ⟨take_snoc l k hlt, by rw [List.length_take]; omega⟩
        clear hc HR hx
        generalize byt l k = y at *
        go_wp2_with (at_builtin; refine append_byte rfl _ _ rfl rfl (hown.alloc _) wr.heap.size y rfl (by go_simp) (by have := hbel.size; simp; omega) HT.out.2 ?_; intro v' w1 hown' hb1)
        obtain ⟨a', c', rfl⟩ := hown'.form
        have hbel' : Below w.heap.size w w1 := (hbel.alloc hbel.size _).trans hb1
        have hown2 : OW w.heap.size w1 (.slice a' (l.take k ++ [y]).length c') (l.take (k + 1)) := by rw [HT.out.1]; exact hown'
        have hlen : (l.take k ++ [y]).length = k + 1 := by rw [List.length_append, List.length_take]; simp; omega
        rw [hlen] at hown2
        clear hown hbel hb1 hown' HT
        go_wp2
        go_roundw
        case rel => exact ⟨k + 1, a', c', by omega, by go_num, by rw [hlen], by rw [hlen]; exact hown2, hbel'⟩
        case measure => simp [intOf]; omega
    · have hkl : k = l.length := by omega
      subst hkl
      go_wp2
      go_ret
      exact ⟨_, rfl, by simpa using hown, hbel⟩
theorem copied {w : World} {v : Value} {l : List UInt8} (h : RB w v l) (hl : l.length ≤ 140737488351232) :
    Calls Tryd.prog 4 #[v] w fun e w' => ∃ v, e = .returned v ∧ OW w.heap.size w' v l ∧ Below w.heap.size w w' := by
  have h' := h
  obtain ⟨a, cap, rfl, _, h⟩ := h
  cases a with
  | none =>
    rcases h with rfl | ⟨b, o, h, _⟩
    · refine (copied_nil cap w).mono ?_
      rintro e w' ⟨rfl, rfl⟩
      exact ⟨_, rfl, World.ownsRow_nil _ _ _ _, Below.refl _ _⟩
    · cases h
  | some x => exact copied_some x cap l w hl h'
def bdN (id : Int) (l : List UInt8) : Int := if id < 0 ∨ 255 < id then 211 else if 32766 < l.length then 213 else 0
def bdL (id : Int) (l : List UInt8) : List UInt8 := if id < 0 ∨ 255 < id then [] else if 32766 < l.length then [] else 20 :: UInt8.ofNat id.toNat :: l
/-- bytes and an error were answered -/
def QE (w : World) (l : List UInt8) (n : Int) (e : Ending) (w' : World) : Prop := ∃ a c, e = .returned (.tuple #[.slice a l.length c, .int .i64 n]) ∧ RB w' (.slice a l.length c) l ∧ Below w.heap.size w w'
theorem rb_nil (w : World) : RB w (.slice none 0 0) [] := ⟨none, 0, rfl, Nat.le_refl _, .inl rfl⟩
theorem two_ow (w : World) (id : Int) (h0 : 0 ≤ id) (h1 : id ≤ 255) : OW w.heap.size (w.alloc (.cells #[.int .u8 20, .int .u8 id] 5)) (.slice (some ⟨w.heap.size, 0, none⟩) 2 2) [20, UInt8.ofNat id.toNat] := by
  have e : (#[.int .u8 20, .int .u8 id] : Array Value) = bc [20, UInt8.ofNat id.toNat] := by
    have : ((UInt8.ofNat id.toNat).toNat : Int) = id := by rw [UInt8.toNat_ofNat', Nat.mod_eq_of_lt (by omega)]; omega
    simp [bc, Lib.byteCells]
    omega
  rw [e]
  exact OW.of_block (l := [20, UInt8.ofNat id.toNat]) (Nat.le_refl _) (heapNew _ _) rfl (by simp) (by simp) (by unfold maxLen; simp)
end Go.Proofs.YtegfdeiamnlfhaaDoor.Bs
