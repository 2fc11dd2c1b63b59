import Derived.Test.YtmfeelkjbpjhdaaGreet
import Derived.Laws.AppendOwnNone
import Derived.Laws.IdiomCopy
namespace Go.Proofs.Ytmfeelkjbpjhdaa
open Go.RowKit
theorem append_nothing {w : World} {B : Nat} {v : Value} {n : Nat} {xs : List Value} (ty : TypeId) (c : Nat) (hown : w.ownsRow B 5 1 v n xs) :
    (Builtin.append_ #[28, 28] ty #[v, .slice none 0 c]).run Try.prog w = .ok v w := by
  obtain ⟨i0, hi, hz0, hz1, hz2⟩ := info_parts info5
  rcases hown.2 with ⟨rfl, rfl⟩ | ⟨g, cap, cur, rfl, _, _, hnc, _⟩
  · simp [Builtin.append_, run_underlying Try.underlying28, sizeOf, typeInfo, hi, Builtin.lenOf, Builtin.firstCells]
  · simp [Builtin.append_, run_underlying Try.underlying28, sizeOf, typeInfo, hi, Builtin.lenOf, Builtin.firstCells, hnc, storeCells]
/-- append(x, y...) where x is the call's own -/
theorem append_bytes {ops : Array Oper} {rest : List Oper} {o : Oper} {a : Act} {Q : Exit → Act → World → Prop} {w : World} {B : Nat} {sv xv : Value} {l m : List UInt8} (hgd : o.guard = none) (s x : Operand)
    (ho : o.op = .call { callee := .builtin .append, args := #[s, x], argTypes := #[28, 28] }) (hs : a.eval s = sv) (hown : OW B w sv l) (hx : a.eval x = xv)
    (hr : RB w xv m) (hB : B ≤ w.heap.size) (hlim : l.length + m.length ≤ 140737488351232)
    (h : ∀ v' w', OW B w' v' (l ++ m) → Below B w w' → wpList Try.prog ops Q rest (a.put o.dst v') w') : wpList Try.prog ops Q (o :: rest) a w := by
  obtain ⟨i0, hi, hz0, hz1, hz2⟩ := info_parts info5
  obtain ⟨ad, c, rfl, _, hr⟩ := hr
  have hm : ∀ b off, ad = some ⟨b, off, none⟩ ∧ (∀ i, i < m.length → w.cell? ⟨b, off + i, none⟩ = some (.int .u8 ((byt m i).toNat : Int))) → wpList Try.prog ops Q (o :: rest) a w := by
    rintro b off ⟨rfl, hc⟩
    refine wpList_append_own w hgd s x 28 ho B 5 i0 _ 1 1 Try.underlying28 hi hz0 hz1 hz2 rfl (by omega) sv l.length (Lib.byteCells l) hs hown ⟨b, off, none⟩ m.length c (Lib.byteCells m) hx (by rw [bcl_len, Nat.mul_one]) (fun j u hu => ?_) (Lib.byteCells_one _) (by unfold maxLen; omega) (by omega) hB (fun v' w' h1 h2 _ => ?_)
    · have hj' : j < m.length := by
        have := (List.getElem?_eq_some_iff.1 hu).1
        rwa [bcl_len] at this
      have hadd : (⟨b, off, none⟩ : Addr).add j = ⟨b, off + j, none⟩ := by unfold Addr.add; split <;> simp_all
      rw [hadd, hc j hj', getD_byt m j hj']
      simpa [Lib.byteCells, List.getElem?_eq_getElem hj'] using hu
    · refine h v' w' ?_ ((Below.refl B w).grown h2 hB (fun k hk => (World.ownsRow.lt hown k hk).1))
      rw [← bcl_append] at h1
      simpa [OW] using h1
  rcases hr with rfl | ⟨b, off, rfl, _, hc⟩
  · cases ad with
    | none =>
      refine wpList_plain hgd fun K hK => ?_
      have hrun := append_nothing o.type c hown
      simp only [List.length_nil] at hx
      unfold Oper.wp
      simp [execOp, ho, resolve, invoke, builtin, hs, hx, hrun, Result.andThen]
      exact hK _ _ (h _ _ (by rw [List.append_nil]; exact hown) (Below.refl _ _))
    | some ad =>
      refine wpList_append_own w hgd s x 28 ho B 5 i0 _ 1 1 Try.underlying28 hi hz0 hz1 hz2 rfl (by omega) sv l.length (Lib.byteCells l) hs hown ad 0 c [] hx (by simp) (fun j u hu => by simp at hu) (fun u hu => by cases hu) (by unfold maxLen; simp at hlim; omega) (by simp at hlim; omega) hB (fun v' w' h1 h2 _ => ?_)
      refine h v' w' ?_ ((Below.refl B w).grown h2 hB (fun k hk => (World.ownsRow.lt hown k hk).1))
      rw [List.append_nil] at h1 ⊢
      simpa [OW] using h1
  · exact hm b off ⟨rfl, hc⟩
/-- a number in four bytes, the highest first -/
def be4 (n : Nat) : List UInt8 := [UInt8.ofNat (n / 16777216), UInt8.ofNat (n / 65536), UInt8.ofNat (n / 256), UInt8.ofNat n]
/-- a frame -/
def frm (l : List UInt8) : List UInt8 := be4 l.length ++ l
theorem be4_len (n : Nat) : (be4 n).length = 4 := rfl
set_option maxHeartbeats 1000000 in
theorem wrap_no (a : Option Addr) (n c : Nat) (hn : 32768 < n) (hn2 : n ≤ 140737488351232) (w : World) :
    Calls Try.prog 5 #[.slice a n c] w fun e w' => e = .returned (.tuple #[.slice none 0 0, .int .i64 102]) ∧ w = w' := by
  go_enter Try.func5, Try.ntmps5
  go_wp2
  go_ret2
  exact ⟨rfl, rfl⟩
theorem zr_get (n i : Nat) (h : i < n) : (bc (zr n))[i]? = some (.int .u8 0) := by
  simp [bc, Lib.byteCells, zr, h]
theorem u8v (n : Nat) : ((UInt8.ofNat n).toNat : Int) = (n : Int) % 256 := by
  rw [UInt8.toNat_ofNat']; omega
theorem wrap_head (n : Nat) (hn : n ≤ 32768) : ((((bc (zr (4 + n))).setIfInBounds 0 (Value.int .u8 ((n : Int) / 16777216))).setIfInBounds 1 (Value.int .u8 ((n : Int) / 65536))).setIfInBounds 2 (Value.int .u8 ((n : Int) / 256))).setIfInBounds 3 (Value.int .u8 ((n : Int) % 256)) = bc (be4 n ++ zr n) := by
  have e : zr (4 + n) = [0, 0, 0, 0] ++ zr n := by
    unfold zr; rw [← List.replicate_append_replicate]; rfl
  rw [e]
  apply Array.ext'
  have h1 := u8v (n / 16777216)
  have h2 := u8v (n / 65536)
  have h3 := u8v (n / 256)
  have h4 := u8v n
  rw [Array.toList_setIfInBounds, Array.toList_setIfInBounds, Array.toList_setIfInBounds, Array.toList_setIfInBounds, bc_list, bc_list, bcl_append, bcl_append]
  simp only [Lib.byteCells, be4, List.map_cons, List.map_nil, List.cons_append, List.nil_append, List.set_cons_zero, List.set_cons_succ, h1, h2, h3, h4]
  have k1 : ((n / 16777216 : Nat) : Int) % 256 = (n : Int) / 16777216 := by omega
  have k2 : ((n / 65536 : Nat) : Int) % 256 = (n : Int) / 65536 := by omega
  have k3 : ((n / 256 : Nat) : Int) % 256 = (n : Int) / 256 := by omega
  rw [k1, k2, k3]
set_option maxHeartbeats 1000000 in
theorem wrap_yes (v : Value) (l : List UInt8) (hl : l.length ≤ 32768) (w : World) (hr : RB w v l) :
    Calls Try.prog 5 #[v] w fun e w' => ∃ v', e = .returned (.tuple #[v', .int .i64 0]) ∧ OW w.heap.size w' v' (frm l) ∧ Below w.heap.size w w' := by
  obtain ⟨a, c, rfl, _, hr⟩ := hr
  have hmk : ∀ u : World, (Instr.makeSlice 28 (.int .i64 (4 + (l.length : Int))) (.int .i64 (4 + (l.length : Int)))).run Try.prog u = .ok (.slice (some ⟨u.heap.size, 0, none⟩) (4 + l.length) (4 + l.length)) (u.alloc (.cells (bc (zr (4 + l.length))) 5)) := by
    have := make_bytes (4 + l.length) (by omega)
    simpa using this
  have hb : Below w.heap.size w (w.alloc (.cells (bc (be4 l.length ++ zr l.length)) 5)) := (Below.refl _ _).alloc (Nat.le_refl _) _
  have HW := wrap_head l.length hl
  have hg := heapNew w (.cells (bc (be4 l.length ++ zr l.length)) 5)
  by_cases hn : l = []
  · subst hn
    have HO : Hid (OW w.heap.size (w.alloc (.cells (bc (be4 0 ++ zr 0)) 5)) (.slice (some ⟨w.heap.size, 0, none⟩) 4 4) (frm [])) := OW.of_block (l := frm []) (Nat.le_refl _) hg rfl rfl (by decide) (by decide)
    have hm4 : ∀ u : World, (Instr.makeSlice 28 (.int .i64 4) (.int .i64 4)).run Try.prog u = .ok (.slice (some ⟨u.heap.size, 0, none⟩) 4 4) (u.alloc (.cells (bc (zr 4)) 5)) := make_bytes 4 (by omega)
    have HM : (((((bc (zr 4)).setIfInBounds 0 (Value.int .u8 0)).setIfInBounds 1 (Value.int .u8 0)).setIfInBounds 2 (Value.int .u8 0)).setIfInBounds 3 (Value.int .u8 0)) = bc (be4 0 ++ zr 0) := rfl
    have hc := fun (d : Option Addr) (dc : Nat) => run_copy_none (P := Try.prog) (w.alloc (.cells (bc (be4 0 ++ zr 0)) 5)) 28 28 3 5 d a 0 dc 0 c Try.underlying28 hs5 rfl
    have HB : Hid (Below w.heap.size w (w.alloc (.cells (bc (be4 0 ++ zr 0)) 5))) := hb
    have z0 := zr_get 4 0 (by omega)
    have z1 := zr_get 4 1 (by omega)
    have z2 := zr_get 4 2 (by omega)
    have z3 := zr_get 4 3 (by omega)
    rw [← HM] at hc HB HO
    clear hr hg HW hb hmk HM
    generalize bc (zr 4) = Z at *
    go_enter Try.func5, Try.ntmps5
    go_wp2
    go_ret2
    exact ⟨_, rfl, HO.out, HB.out⟩
  · rcases hr with h | ⟨b, off, rfl, hb1, hc1⟩
    · exact absurd h hn
    have hcp := copy_row (w.alloc (.cells (bc (be4 l.length ++ zr l.length)) 5)) 3 w.heap.size 4 l.length l.length b off l.length c (be4 l.length ++ zr l.length) l 5 hg (Nat.min_self _).symm (fun i hi => (hb.cell (p := ⟨b, off + i, none⟩) hb1).trans (hc1 i hi)) (by simp [be4_len, zr_len])
    have e1 : (be4 l.length ++ zr l.length).take 4 ++ l ++ (be4 l.length ++ zr l.length).drop (4 + l.length) = frm l := by
      rw [List.drop_eq_nil_of_le (by simp [be4_len, zr_len])]
      simp [frm, be4]
    rw [e1] at hcp
    have HO : Hid (OW w.heap.size ((w.alloc (.cells (bc (be4 l.length ++ zr l.length)) 5)).setRow w.heap.size (bc (frm l))) (.slice (some ⟨w.heap.size, 0, none⟩) (4 + l.length) (4 + l.length)) (frm l) ∧ Below w.heap.size w ((w.alloc (.cells (bc (be4 l.length ++ zr l.length)) 5)).setRow w.heap.size (bc (frm l)))) := by
      have hfl : (frm l).length = 4 + l.length := by simp [frm, be4_len]
      refine ⟨?_, belowSetRow hb (Nat.le_refl _) _⟩
      have := OW.of_block (B := w.heap.size) (cap := 4 + l.length) (l := frm l) (Nat.le_refl _) (heapSetRow _ _ _ (bc (frm l)) _ hg) hfl.symm (List.take_length ..) (Nat.le_refl _) (by rw [hfl]; unfold maxLen; omega)
      rwa [hfl] at this
    rw [← HW] at hcp HO
    have hne : l.length ≠ 0 := fun h => hn (List.length_eq_zero_iff.1 h)
    have z0 := zr_get (4 + l.length) 0 (by omega)
    have z1 := zr_get (4 + l.length) 1 (by omega)
    have z2 := zr_get (4 + l.length) 2 (by omega)
    have z3 := zr_get (4 + l.length) 3 (by omega)
    clear hg HW hb hb1 hc1 e1
    generalize bc (zr (4 + l.length)) = Z at *
    generalize l.length = n at *
    generalize bc (frm l) = FL at *
    generalize frm l = fl at *
    go_enter Try.func5, Try.ntmps5
    go_wp2
    go_ret2
    exact ⟨_, rfl, HO.out⟩
end Go.Proofs.Ytmfeelkjbpjhdaa
