import Derived.Test.YtnpcbcfjnhjmmaaGreatDoorV26
namespace Go.Proofs.YtnpcbcfjnhjmmaaGreatDoor
open Go.RowKit Go.Deep
theorem below_drewN (w : World) (n : Nat) : Below w.heap.size w (w.drewN n) := ⟨rfl, rfl, rfl, Nat.le_refl _, fun _ _ => rfl⟩
/-- the link's runs and keys stand in their order -/
def odB (k : Lk) : Bool := apB k.rs && soB k.dn k.ky
set_option maxHeartbeats 2000000 in
set_option maxRecDepth 100000 in
theorem isOrdered (k : Lk) (tr pe on mo : Value) (w : World) (hk : k.ok) (hs : k.rs.length ≤ 2147483647) (hi : ∀ x ∈ k.rs, RnOk x) (hr : RL4 (fun _ => True) w k tr pe on mo) :
    Calls Tryz.prog 26 #[.agg (lkC k.l k.nm tr pe on mo)] w fun e w' => e = .returned (.bool (odB k)) ∧ Below w.heap.size w w' := by
  have hl := hk.l
  have B0 : Hid (Below w.heap.size w (w.alloc (Obj.cells (lkC k.l k.nm tr pe on mo) 28))) := (Below.refl _ _).alloc (Nat.le_refl _) _
  have LA : Hid (LB (w.alloc (Obj.cells (lkC k.l k.nm tr pe on mo) 28)) w.heap.size k.l k.nm tr pe on mo) := heap_new _ _
  have HF : Hid (odB k = (apB k.rs && soB k.dn k.ky)) := rfl
  have HR : Hid (RL4 (fun _ => True) (w.alloc (Obj.cells (lkC k.l k.nm tr pe on mo) 28)) k tr pe on mo) := hr.move (fun _ h _ => h) B0.out.size (fun b _ hl => B0.out.block b hl)
  have HI0 : Hid (k.ok ∧ k.rs.length ≤ 2147483647 ∧ ∀ x ∈ k.rs, RnOk x) := ⟨hk, hs, hi⟩
  clear hr hi hk hs
  go_enter Tryz.func26, Tryz.ntmps26
  go_upto_region 1 with fail
  generalize (w.alloc (Obj.cells (lkC k.l k.nm tr pe on mo) 28)) = w0 at *
  generalize hvb : w.heap.size = H at *
  have HS : Hid (w.heap.size = H) := hvb
  have HBW : Hid (Below w.heap.size w w0) := by rw [hvb]; exact B0
  obtain ⟨a32, a33, a34, a35, a36⟩ := LA.out.cells hl
  clear hvb a32 a33 a34
  go_wp2_with fail
  refine (areApart on k.rs _ HR.out.2.2.1 HI0.out.2.1 HI0.out.2.2).mono ?_
  rintro e w1 ⟨rfl, nq, hw1⟩
  have b1 : Below w0.heap.size w0 w1 := by rw [hw1]; exact below_drewN _ _
  have HB1 : Hid (Below w.heap.size w w1 ∧ RD (fun _ => True) w1 k.dn k.ky k.dv mo) := ⟨HBW.out.trans (b1.mono HBW.out.size), RD.move (fun _ h _ => h) b1.size (fun b _ hl => b1.block b hl) HR.out.2.2.2⟩
  have a36' := Below.cellS b1 (Nat.le_refl _) a36
  clear b1 a35 a36 HR LA B0 hw1
  generalize apB k.rs = q1 at *
  cases q1 with
  | false =>
    go_wp2
    go_ret
    exact ⟨ret_b (by rw [HF.out]; rfl), HS.out ▸ HB1.out.1⟩
  | true =>
    go_wp2_with fail
    refine (isSorted mo k.dn k.ky k.dv _ HB1.out.2 HI0.out.1.dn.1).mono ?_
    rintro e w3 ⟨rfl, b3⟩
    have HB3 : Hid (Below w.heap.size w w3) := HB1.out.1.trans (b3.mono HB1.out.1.size)
    generalize soB k.dn k.ky = q4 at *
    clear b3 HB1 a36'
    go_wp2
    go_ret
    exact ⟨ret_b (by rw [HF.out]; cases q4 <;> rfl), HS.out ▸ HB3.out⟩
end Go.Proofs.YtnpcbcfjnhjmmaaGreatDoor
namespace Go.Proofs.YtnpcbcfjnhjmmaaGreatDoor
open Go.RowKit Go.Deep
/-- something stands twice in the list -/
def twB (ts : List ByteArray) : Bool := (List.range ts.length).any fun i => match ts[i]? with | some x => winB (ts.take i) x | none => false
theorem RS.take {S : Nat → Prop} {w : World} {a : Option Addr} {n c : Nat} {ts : List ByteArray} (h : RS S w (.slice a n c) ts) {i : Nat} (hi : i ≤ ts.length) : RS S w (.slice a i c) (ts.take i) := by
  obtain ⟨a', c', e, h⟩ := h
  simp only [Value.slice.injEq] at e
  obtain ⟨rfl, rfl, rfl⟩ := e
  refine ⟨a, c, by rw [List.length_take, Nat.min_eq_left hi], ?_⟩
  rcases h with h | ⟨b, o, rfl, h1, h2, h3⟩
  · exact .inl (by rw [List.length_take]; omega)
  · refine .inr ⟨b, o, rfl, h1, h2, fun j x hx => h3 j x ?_⟩
    rw [List.getElem?_take] at hx
    split at hx
    · exact hx
    · cases hx
end Go.Proofs.YtnpcbcfjnhjmmaaGreatDoor
namespace Go.Proofs.YtnpcbcfjnhjmmaaGreatDoor
open Go.RowKit Go.Deep
theorem any_of_none {α : Type} {l : List α} {p : α → Bool} (h : ∀ (j : Nat) (x : α), j < l.length → l[j]? = some x → p x = false) : l.any p = false := by
  rw [List.any_eq_false]
  intro x hx
  obtain ⟨j, hj⟩ := List.mem_iff_getElem?.1 hx
  have := h j x (List.getElem?_eq_some_iff.1 hj).1 hj
  simp [this]
end Go.Proofs.YtnpcbcfjnhjmmaaGreatDoor
