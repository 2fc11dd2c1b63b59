import Derived.Test.YtoiehkpmemmldaaDoorLs
import Derived.Shelf.Lay
import Derived.Shelf.Strings.OnBuilder
import Derived.Ground.NamesProg
import Derived.Lib.Join
namespace Go.Proofs.YtoiehkpmemmldaaDoor
open Go.Shelf Go.RowKit
shelf_lay Lays.n156 Nm 156 at Tryd as lays156
theorem bx156 : Builder.Extra Tryd.prog lays156_ren where
  sizeBuilder := by kernel_rfl
  liesBuilder := by kernel_rfl
  t5 := Tryd.underlying5
  a5 := Tryd.isAgg5
  z5 := Tryd.sizeOf5
  v5 := Tryd.zeroValue5
  infoByte := by kernel_rfl
  cellsByte := by kernel_rfl
  sizeByte := by kernel_rfl
  neB5 := by decide
/-- the names with / between them -/
def jo (l : List ByteArray) : ByteArray := ⟨(Lib.join (l.map (·.data.toList)) [47]).toArray⟩
theorem fe_all : ∀ {l : List ByteArray}, fe l = 0 → ∀ s ∈ l, ce s = 0
  | [], _, s, h => by cases h
  | a :: l, h0, s, h => by
    by_cases ha : ce a = 0
    · rw [fe, if_pos ha] at h0
      rcases List.mem_cons.1 h with rfl | h
      · exact ha
      · exact fe_all h0 s h
    · rw [fe, if_neg ha] at h0; exact absurd h0 ha
theorem ce_size {s : ByteArray} (h : ce s = 0) : s.size ≤ 255 := by
  rcases Nat.lt_or_ge 255 s.size with h1 | h1
  · rw [ce2 h1] at h; cases h
  · exact h1
theorem pe_ok {l : List ByteArray} (h : pe l = 0) : l.length ≠ 0 ∧ l.length ≤ 16 ∧ ∀ s ∈ l, ce s = 0 := by
  by_cases h0 : l.length = 0
  · rw [pe0 h0] at h; cases h
  by_cases h1 : 16 < l.length
  · rw [pe1 h0 h1] at h; cases h
  · rw [pe2 h0 h1] at h; exact ⟨h0, by omega, fe_all h⟩
theorem tail_len : ∀ r : List ByteArray, (∀ s ∈ r, s.size ≤ 255) → (Lib.joinTail [47] (r.map (·.data.toList))).length ≤ 256 * r.length
  | [], _ => by simp [Lib.joinTail]
  | a :: r, h => by
    have ih := tail_len r fun s hs => h s (List.mem_cons_of_mem _ hs)
    have ha := h a (List.mem_cons_self ..)
    have ha' : a.data.size ≤ 255 := ha
    simp only [Lib.joinTail, List.map_cons, List.flatten_cons, List.length_append, List.length_cons, List.length_nil, Array.length_toList] at ih ⊢
    omega
theorem jo_len {l : List ByteArray} (h : pe l = 0) : (Lib.join (l.map (·.data.toList)) [47]).length ≤ 4096 := by
  obtain ⟨h0, h1, h2⟩ := pe_ok h
  match l, h0, h1, h2 with
  | a :: r, _, h1, h2 =>
    rw [List.map_cons, Lib.join_cons, List.length_append, Array.length_toList]
    have := tail_len r fun s hs => ce_size (h2 s (List.mem_cons_of_mem _ hs))
    have h3 : a.data.size ≤ 255 := ce_size (h2 a (List.mem_cons_self ..))
    simp at h1
    omega
theorem join34 (l : List ByteArray) (v : Value) (w : World) (h : pe l = 0) (hr : SR w l v) :
    Calls Tryd.prog 27 #[v, .string ⟨#[47]⟩] w fun e w' => e = .returned (.string (jo l)) ∧ Below w.heap.size w w' := by
  obtain ⟨h0, h1, _⟩ := pe_ok h
  obtain ⟨a, c, rfl, hc, hr⟩ := hr
  rcases hr with hr | ⟨b, o, rfl, hb, hcell⟩
  · subst hr; simp at h0
  have hl := jo_len h
  exact Any.strings_Join lays156 bx156 b o c l ⟨#[47]⟩ w (fun j x hx => by
    obtain ⟨hj, hx⟩ := List.getElem?_eq_some_iff.1 hx
    rw [hcell j hj, sa_get hj, hx]) hb (by omega) hc (by show _ ≤ _; exact Nat.le_trans hl (by omega))
set_option maxHeartbeats 400000 in
theorem join23 (l : List ByteArray) (v : Value) (w : World) (hf : FL l) (hr : SR w l v) :
    Calls Tryd.prog 16 #[v] w fun e w' => e = .returned (.tuple #[.string (if pe l = 0 then jo l else ⟨#[]⟩), .int .i64 (pe l)]) ∧ Below w.heap.size w w' := by
  have HF : Hid (FL l) := hf
  have HR : Hid (SR w l v) := hr
  obtain ⟨va, vc, rfl, _, _⟩ := hr
  by_cases hz : pe l = 0
  · have HZ : Hid (pe l = 0) := hz
    have HP := path21 _ l w HF.out HR.out
    rw [hz] at HP
    rw [if_pos hz, hz]
    have HP' : Hid (Calls Tryd.prog 11 #[.slice va l.length vc] w fun e w' => e = .returned (.int .i64 0) ∧ Below w.heap.size w w') := HP
    clear hz HP hf
    go_enter Tryd.func16, Tryd.ntmps16
    go_wp2_with fail
    refine HP'.out.mono ?_
    rintro e w1 ⟨rfl, hb1⟩
    have B1 : Hid (Below w.heap.size w w1) := hb1
    clear hb1
    go_wp2_with fail
    refine (join34 l _ _ HZ.out (HR.out.keep B1.out)).mono ?_
    rintro e w2 ⟨rfl, hb2⟩
    go_wp2
    go_ret2
    exact ⟨rfl, B1.out.trans (hb2.mono B1.out.size)⟩
  · have HP' : Hid (Calls Tryd.prog 11 #[.slice va l.length vc] w fun e w' => e = .returned (.int .i64 (pe l)) ∧ Below w.heap.size w w') := path21 _ l w HF.out HR.out
    rw [if_neg hz]
    have hz' : (pe l == 0) = false := beq_eq_false_iff_ne.2 hz
    generalize pe l = z at *
    clear hz hf
    go_enter Tryd.func16, Tryd.ntmps16
    go_wp2_with fail
    refine HP'.out.mono ?_
    rintro e w1 ⟨rfl, hb1⟩
    go_wp2
    go_ret2
    exact ⟨rfl, hb1⟩
end Go.Proofs.YtoiehkpmemmldaaDoor
