import Derived.Test.YtjfgpplomldeiaaGreatDoorRb
namespace Go.Proofs.YtjfgpplomldeiaaGreatDoor
open Go.RowKit Go.Deep
/-- each thing in the link may be one of its kind -/
def fmB (k : Lk) : Bool := !winB k.ts ⟨#[]⟩ && (!winB k.ps ⟨#[]⟩ && (!k.rs.any srB && !spA k.dn k.ky k.dv))
set_option maxHeartbeats 2000000 in
set_option maxRecDepth 100000 in
theorem isFormed (k : Lk) (tr pe on mo : Value) (w : World) (hk : k.ok) (hi : ∀ x ∈ k.rs, I64 x.1 ∧ I64 x.2) (hr : RL4 (fun _ => True) w k tr pe on mo) :
    Calls Tryz.prog 23 #[.agg (lkC k.l k.nm tr pe on mo)] w fun e w' => e = .returned (.bool (fmB k)) ∧ Below w.heap.size w w' := by
  have hl := hk.l
  have B0 : Hid (Below w.heap.size w (w.alloc (Obj.cells (lkC k.l k.nm tr pe on mo) 28))) := (Below.refl _ _).alloc (Nat.le_refl _) _
  have LA : Hid (LB (w.alloc (Obj.cells (lkC k.l k.nm tr pe on mo) 28)) w.heap.size k.l k.nm tr pe on mo) := heap_new _ _
  have HF : Hid (fmB k = (!winB k.ts ⟨#[]⟩ && (!winB k.ps ⟨#[]⟩ && (!k.rs.any srB && !spA k.dn k.ky k.dv)))) := rfl
  have HR : Hid (RL4 (fun _ => True) (w.alloc (Obj.cells (lkC k.l k.nm tr pe on mo) 28)) k tr pe on mo) := hr.move (fun _ h _ => h) B0.out.size (fun b _ hl => B0.out.block b hl)
  have HI0 : Hid (k.ok ∧ ∀ x ∈ k.rs, I64 x.1 ∧ I64 x.2) := ⟨hk, hi⟩
  clear hr hi hk
  go_enter Tryz.func23, Tryz.ntmps23
  go_upto_region 1 with fail
  generalize (w.alloc (Obj.cells (lkC k.l k.nm tr pe on mo) 28)) = w0 at *
  generalize hvb : w.heap.size = H at *
  have HS : Hid (w.heap.size = H) := hvb
  have HBW : Hid (Below w.heap.size w w0) := by rw [hvb]; exact B0
  obtain ⟨a32, a33, a34, a35, a36⟩ := LA.out.cells hl
  clear hvb a32
  go_wp2_with fail
  refine (contains tr k.ts ⟨#[]⟩ _ HR.out.1 HI0.out.1.ts.1).mono ?_
  rintro e w1 ⟨rfl, rfl⟩
  generalize winB k.ts ⟨#[]⟩ = q1 at *
  cases q1 with
  | true =>
    go_wp2
    go_ret
    exact ⟨ret_b (by rw [HF.out]; rfl), HS.out ▸ HBW.out⟩
  | false =>
    go_wp2_with fail
    refine (contains pe k.ps ⟨#[]⟩ _ HR.out.2.1 HI0.out.1.ps.1).mono ?_
    rintro e w1 ⟨rfl, rfl⟩
    generalize winB k.ps ⟨#[]⟩ = q2 at *
    cases q2 with
    | true =>
      go_wp2
      go_ret
      exact ⟨ret_b (by rw [HF.out]; rfl), HS.out ▸ HBW.out⟩
    | false =>
      go_wp2_with fail
      refine (containsRun on k.rs _ HR.out.2.2.1 HI0.out.1.rs HI0.out.2).mono ?_
      rintro e w2 ⟨rfl, b2⟩
      have HB2 : Hid (Below w.heap.size w w2 ∧ RD (fun _ => True) w2 k.dn k.ky k.dv mo) := ⟨HBW.out.trans (b2.mono HBW.out.size), RD.move (fun _ h _ => h) b2.size (fun b _ hl => b2.block b hl) HR.out.2.2.2⟩
      have a36' := Below.cellS b2 (Nat.le_refl _) a36
      generalize k.rs.any srB = q3 at *
      clear b2 a33 a34 a35 a36 HR LA B0
      cases q3 with
      | true =>
        go_wp2
        go_ret
        exact ⟨ret_b (by rw [HF.out]; rfl), HS.out ▸ HB2.out.1⟩
      | false =>
        go_wp2_with fail
        refine (containsPair mo k.dn k.ky k.dv _ HB2.out.2 HI0.out.1.dn.1).mono ?_
        rintro e w3 ⟨rfl, b3⟩
        have HB3 : Hid (Below w.heap.size w w3) := HB2.out.1.trans (b3.mono HB2.out.1.size)
        generalize spA k.dn k.ky k.dv = q4 at *
        clear b3 HB2 a36'
        go_wp2
        go_ret
        exact ⟨ret_b (by rw [HF.out]; cases q4 <;> rfl), HS.out ▸ HB3.out⟩
end Go.Proofs.YtjfgpplomldeiaaGreatDoor
