import Derived.Test.YtpembmfpgolniaaDoorRu
namespace Go.Proofs.YtpembmfpgolniaaDoor
open Go.RowKit
set_option maxHeartbeats 1000000 in
theorem wrap_no (a : Option Addr) (n c : Nat) (hn : 32768 < n) (hn2 : n ≤ 140737488351232) (w : World) :
    Calls Tryd.prog 30 #[.slice a n c] w fun e w' => e = .returned (.tuple #[.slice none 0 0, .int .i64 102]) ∧ w = w' := by
  go_enter Tryd.func30, Tryd.ntmps30
  go_wp2
  go_ret2
  exact ⟨rfl, rfl⟩
theorem wrap_head (n : Nat) (hn : n ≤ 32768) : ((((bc (zr (4 + n))).setIfInBounds 0 (Value.int .u8 ((n : Int) / 16777216))).setIfInBounds 1 (Value.int .u8 ((n : Int) / 65536))).setIfInBounds 2 (Value.int .u8 ((n : Int) / 256))).setIfInBounds 3 (Value.int .u8 ((n : Int) % 256)) = bc (be4 n ++ zr n) := by
  have e : zr (4 + n) = [0, 0, 0, 0] ++ zr n := by
    unfold zr; rw [← List.replicate_append_replicate]; rfl
  rw [e]
  apply Array.ext'
  have h1 := u8v (n / 16777216)
  have h2 := u8v (n / 65536)
  have h3 := u8v (n / 256)
  have h4 := u8v n
  rw [Array.toList_setIfInBounds, Array.toList_setIfInBounds, Array.toList_setIfInBounds, Array.toList_setIfInBounds, bc_list, bc_list, bcl_append, bcl_append]
  simp only [Lib.byteCells, be4, List.map_cons, List.map_nil, List.cons_append, List.nil_append, List.set_cons_zero, List.set_cons_succ, h1, h2, h3, h4]
  have k1 : ((n / 16777216 : Nat) : Int) % 256 = (n : Int) / 16777216 := by omega
  have k2 : ((n / 65536 : Nat) : Int) % 256 = (n : Int) / 65536 := by omega
  have k3 : ((n / 256 : Nat) : Int) % 256 = (n : Int) / 256 := by omega
  rw [k1, k2, k3]
set_option maxHeartbeats 1000000 in
set_option maxRecDepth 100000 in
theorem wrap_yes (v : Value) (l : List UInt8) (hl : l.length ≤ 32768) (w : World) (hr : RB w v l) :
    Calls Tryd.prog 30 #[v] w fun e w' => ∃ v', e = .returned (.tuple #[v', .int .i64 0]) ∧ OW w.heap.size w' v' (frm l) ∧ Below w.heap.size w w' := by
  obtain ⟨a, c, rfl, _, hr⟩ := hr
  have hmk : ∀ u : World, (Instr.makeSlice 22 (.int .i64 (4 + (l.length : Int))) (.int .i64 (4 + (l.length : Int)))).run Tryd.prog u = .ok (.slice (some ⟨u.heap.size, 0, none⟩) (4 + l.length) (4 + l.length)) (u.alloc (.cells (bc (zr (4 + l.length))) 5)) := by
    have := make_bytes (4 + l.length) (by omega)
    simpa using this
  have hb : Below w.heap.size w (w.alloc (.cells (bc (be4 l.length ++ zr l.length)) 5)) := (Below.refl _ _).alloc (Nat.le_refl _) _
  have HW := wrap_head l.length hl
  have hg := heapNew w (.cells (bc (be4 l.length ++ zr l.length)) 5)
  by_cases hn : l = []
  · subst hn
    have HO : Hid (OW w.heap.size (w.alloc (.cells (bc (be4 0 ++ zr 0)) 5)) (.slice (some ⟨w.heap.size, 0, none⟩) 4 4) (frm [])) := OW.of_block (l := frm []) (Nat.le_refl _) hg rfl rfl (by decide) (by decide)
    have hm4 : ∀ u : World, (Instr.makeSlice 22 (.int .i64 4) (.int .i64 4)).run Tryd.prog u = .ok (.slice (some ⟨u.heap.size, 0, none⟩) 4 4) (u.alloc (.cells (bc (zr 4)) 5)) := make_bytes 4 (by omega)
    have HM : (((((bc (zr 4)).setIfInBounds 0 (Value.int .u8 0)).setIfInBounds 1 (Value.int .u8 0)).setIfInBounds 2 (Value.int .u8 0)).setIfInBounds 3 (Value.int .u8 0)) = bc (be4 0 ++ zr 0) := rfl
    have hc := fun (d : Option Addr) (dc : Nat) => run_copy_none (P := Tryd.prog) (w.alloc (.cells (bc (be4 0 ++ zr 0)) 5)) 22 22 3 5 d a 0 dc 0 c Tryd.underlying22 hs5 rfl
    have HB : Hid (Below w.heap.size w (w.alloc (.cells (bc (be4 0 ++ zr 0)) 5))) := hb
    have z0 := zr_get 4 0 (by omega)
    have z1 := zr_get 4 1 (by omega)
    have z2 := zr_get 4 2 (by omega)
    have z3 := zr_get 4 3 (by omega)
    rw [← HM] at hc HB HO
    clear hr hg HW hb hmk HM
    generalize bc (zr 4) = Z at *
    go_enter Tryd.func30, Tryd.ntmps30
    go_wp2
    go_ret2
    exact ⟨_, rfl, HO.out, HB.out⟩
  · rcases hr with h | ⟨b, off, rfl, hb1, hc1⟩
    · exact absurd h hn
    have hcp := copy_row (w.alloc (.cells (bc (be4 l.length ++ zr l.length)) 5)) 3 w.heap.size 4 l.length l.length b off l.length c (be4 l.length ++ zr l.length) l 5 hg (Nat.min_self _).symm (fun i hi => (hb.cell (p := ⟨b, off + i, none⟩) hb1).trans (hc1 i hi)) (by simp [be4_len, zr_len])
    have e1 : (be4 l.length ++ zr l.length).take 4 ++ l ++ (be4 l.length ++ zr l.length).drop (4 + l.length) = frm l := by
      rw [List.drop_eq_nil_of_le (by simp [be4_len, zr_len])]
      simp [frm, be4]
    rw [e1] at hcp
    have HO : Hid (OW w.heap.size ((w.alloc (.cells (bc (be4 l.length ++ zr l.length)) 5)).setRow w.heap.size (bc (frm l))) (.slice (some ⟨w.heap.size, 0, none⟩) (4 + l.length) (4 + l.length)) (frm l) ∧ Below w.heap.size w ((w.alloc (.cells (bc (be4 l.length ++ zr l.length)) 5)).setRow w.heap.size (bc (frm l)))) := by
      have hfl : (frm l).length = 4 + l.length := by simp [frm, be4_len]
      refine ⟨?_, belowSetRow hb (Nat.le_refl _) _⟩
      have := OW.of_block (B := w.heap.size) (cap := 4 + l.length) (l := frm l) (Nat.le_refl _) (heapSetRow _ _ _ (bc (frm l)) _ hg) hfl.symm (List.take_length ..) (Nat.le_refl _) (by rw [hfl]; unfold maxLen; omega)
      rwa [hfl] at this
    rw [← HW] at hcp HO
    have hne : l.length ≠ 0 := fun h => hn (List.length_eq_zero_iff.1 h)
    have z0 := zr_get (4 + l.length) 0 (by omega)
    have z1 := zr_get (4 + l.length) 1 (by omega)
    have z2 := zr_get (4 + l.length) 2 (by omega)
    have z3 := zr_get (4 + l.length) 3 (by omega)
    clear hg HW hb hb1 hc1 e1
    generalize bc (zr (4 + l.length)) = Z at *
    generalize l.length = n at *
    generalize bc (frm l) = FL at *
    generalize frm l = fl at *
    go_enter Tryd.func30, Tryd.ntmps30
    go_wp2
    go_ret2
    exact ⟨_, rfl, HO.out⟩
end Go.Proofs.YtpembmfpgolniaaDoor
