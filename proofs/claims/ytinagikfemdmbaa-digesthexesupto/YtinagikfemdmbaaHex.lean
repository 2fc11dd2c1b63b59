import Derived.Test.YtinagikfemdmbaaBytes
import Derived.Test.YtinagikfemdmbaaDigit
import Derived.Laws.BytesString
import Derived.Laws.IdiomStrings
namespace Go.Proofs.Ytinagikfemdmbaa
open Go.RowKit
theorem infoB : (Try.prog.info? 5).map (fun i => (i.zero, i.size, i.bytes)) = some (some (.int .u8 0), 1, 1) := by kernel_rfl
def strI (ns : List Int) : ByteArray := ns.foldl (fun r n => r.push (UInt8.ofNat n.toNat)) ByteArray.empty
theorem conv_reads {w : World} {v : Value} {xs : List Int} (h : Reads w v xs) : (convert 27 9 v).run Try.prog w = .ok (.string (strI xs)) w := by
  obtain ⟨a, cap, rfl, h⟩ := h
  rw [run_convert_bytes_string w 27 9 5 a _ cap Try.underlying27 Try.underlying5 Try.underlying9]
  cases a with
  | none =>
    rcases h with rfl | ⟨b, o, h, _⟩
    · rfl
    · cases h
  | some a =>
    refine run_bytesToString w a xs.length cap xs ?_
    have hl := run_loadCells_list (P := Try.prog) w a (xs.map (Value.int .u8)) (fun j v hj => by
      have hj' : j < xs.length := by
        have := (List.getElem?_eq_some_iff.1 hj).1
        simpa using this
      rcases h with rfl | ⟨b, o, h, _, hc⟩
      · simp at hj'
      · simp only [Option.some.injEq] at h
        subst h
        have hadd : (⟨b, o, none⟩ : Addr).add j = ⟨b, o + j, none⟩ := by unfold Addr.add; split <;> simp_all
        rw [hadd, hc j hj']
        simp [List.getElem?_eq_getElem hj'] at hj
        rw [← hj]
        simp [List.getD, List.getElem?_eq_getElem hj'])
    simpa using hl
theorem ownForm {w : World} {base e n : Nat} {v : Value} {xs : List Value} (h : w.ownsRow base e 1 v n xs) : ∃ a cap, v = .slice a n cap := by
  rcases h.2 with ⟨rfl, rfl⟩ | ⟨g, cap, _, rfl, _⟩
  · exact ⟨none, 0, rfl⟩
  · exact ⟨_, cap, rfl⟩
theorem belowApp {w wr w1 : World} {o : Obj} {v : Value} {n e : Nat} {xs : List Value} (hb : Below w.heap.size w wr) (hown : wr.ownsRow w.heap.size e 1 v n xs) (hg : (wr.alloc o).grownBy w1 v.ownBlock) : Below w.heap.size w w1 :=
  (hb.alloc hb.size o).grown hg (by have := hb.size; simp; omega) (fun k hk => (hown.lt k hk).1)
theorem take_snocI (xs : List Int) (k : Nat) (h : k < xs.length) : xs.take (k + 1) = xs.take k ++ [xs.getD k 0] := by
  rw [List.take_succ_eq_append_getElem h]; simp [List.getD, List.getElem?_eq_getElem h]
set_option maxHeartbeats 400000 in
theorem copied17_nil (cap : Nat) (w : World) :
    Calls Try.prog 17 #[.slice none 0 cap] w fun e w' => e = .returned (.slice none 0 0) ∧ w' = w := by
  have hq := fun u : World => Lib.run_eql_slice_nil (P := Try.prog) u 27 5 none 0 cap 0 0 Try.underlying27
  go_enter Try.func17, Try.ntmps17
  go_wp2
  go_ret
  exact ⟨rfl, rfl⟩
set_option maxHeartbeats 400000 in
theorem copied17_some (x : Addr) (cap : Nat) (xs : List Int) (w : World) (hl : xs.length ≤ 1048576)
    (hr : xs = [] ∨ ∃ b off, some x = some (⟨b, off, none⟩ : Addr) ∧ b < w.heap.size ∧ ∀ i, i < xs.length → w.cell? ⟨b, off + i, none⟩ = some (.int .u8 (xs.getD i 0))) :
    Calls Try.prog 17 #[.slice (some x) xs.length cap] w fun e w' => ∃ v, e = .returned v ∧ Reads w' v xs ∧ Below w.heap.size w w' := by
  obtain ⟨i0, hi, hz0, hz1, hz2⟩ := info_parts infoB
  have hq := fun u : World => Lib.run_eql_slice_nil (P := Try.prog) u 27 5 (some x) xs.length cap 0 0 Try.underlying27
  have hmk : ∀ u : World, (Instr.makeSlice 27 (.int .i64 0) (.int .i64 (xs.length : Int))).run Try.prog u =
      .ok (.slice (some ⟨u.heap.size, 0, none⟩) 0 xs.length) (u.alloc (.cells (madeCells #[.int .u8 0] xs.length) 5)) := fun u => by
    have h := run_make (P := Try.prog) u 27 5 i0 (.int .u8 0) Try.underlying27 hi hz0 .i64 .i64 0 (xs.length : Int) (by omega) (by omega) (by rw [hz2]; omega) (by omega)
    simpa [hz1, Value.cells] using h
  have HR : Hid (xs = [] ∨ ∃ b off, some x = some (⟨b, off, none⟩ : Addr) ∧ b < w.heap.size ∧ ∀ i, i < xs.length → w.cell? ⟨b, off + i, none⟩ = some (.int .u8 (xs.getD i 0))) := hr
  clear hr
  go_enter Try.func17, Try.ntmps17
  go_wp2
  go_loopw [3, 4] (fun v t wr => ∃ (k : Nat) (a : Option Addr) (cp : Nat), k ≤ xs.length ∧ t = .int .i64 k ∧ v = .slice a k cp ∧ wr.ownsRow w.heap.size 5 1 v k ((xs.take k).map (Value.int .u8)) ∧ Below w.heap.size w wr) (fun _ t _ => xs.length - (intOf t).toNat)
  case atStart => exact ⟨0, _, _, Nat.zero_le _, rfl, rfl, World.ownsRow_made w _ xs.length (Nat.le_refl _) (by unfold maxLen; omega) (by simp [size_madeCells]), (Below.refl _ _).alloc (Nat.le_refl _) _⟩
  case round =>
    obtain ⟨k, a, cp, hk, rfl, rfl, hown, hbel⟩ := hrel
    clear hmk
    by_cases hlt : k < xs.length
    · rcases HR.out with hnil | ⟨b, off, hx, hb, hc⟩
      · rw [hnil] at hlt; simp at hlt
      · simp only [Option.some.injEq] at hx
        subst hx
        have hck : wr.cell? ⟨b, off + k, none⟩ = some (.int .u8 (xs.getD k 0)) := (hbel.cell (p := ⟨b, off + k, none⟩) hb).trans (hc k hlt)
        have HT : Hid (xs.take (k + 1) = xs.take k ++ [xs.getD k 0]) := take_snocI xs k hlt
        clear hc HR
        generalize xs.getD k 0 = y at *
        go_wp2_with (at_builtin; refine wpList_append_own _ rfl _ _ 27 rfl w.heap.size 5 i0 (.int .u8 0) 1 1 Try.underlying27 hi hz0 hz1 hz2 rfl (by decide) _ _ _ rfl (hown.alloc _) ⟨wr.heap.size, 0, none⟩ 1 1 [.int .u8 y] rfl rfl (cell_one_new _ _ _) (fun u hu => by simp at hu; subst hu; rfl) (by unfold maxLen; omega) (by omega) (by have := hbel.size; simp; omega) ?_; intro v' w1 hown' hgrow _)
        obtain ⟨a', cap', rfl⟩ := ownForm hown'
        have hbel' := belowApp hbel hown hgrow
        clear hown hgrow hbel
        go_wp2
        go_roundw
        case rel => exact ⟨k + 1, a', cap', by omega, by go_num, rfl, by rw [HT.out]; simpa using hown', hbel'⟩
        case measure => simp [intOf]; omega
    · have hkl : k = xs.length := by omega
      subst hkl
      go_wp2
      go_ret
      exact ⟨_, rfl, Reads.of_owns (by simpa using hown), hbel⟩
theorem copied17 {w : World} {v : Value} {xs : List Int} (h : Reads w v xs) (hl : xs.length ≤ 1048576) :
    Calls Try.prog 17 #[v] w fun e w' => ∃ v, e = .returned v ∧ Reads w' v xs ∧ Below w.heap.size w w' := by
  obtain ⟨a, cap, rfl, h⟩ := h
  cases a with
  | none =>
    rcases h with rfl | ⟨b, o, h, _⟩
    · refine (copied17_nil cap w).mono ?_
      rintro e w' ⟨rfl, rfl⟩
      exact ⟨_, rfl, Reads.nil _, Below.refl _ _⟩
    · cases h
  | some x => exact copied17_some x cap xs w hl h
end Go.Proofs.Ytinagikfemdmbaa
