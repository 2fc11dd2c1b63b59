import Derived.Test.YtglknmelcianjaaSy
namespace Go.Proofs.Ytglknmelcianjaa
open Go.RowKit
set_option maxHeartbeats 1000000 in
/-- slices.Clone of writes -/
theorem cloneW (v : Value) (n : Nat) (xs : List Value) (w : World) (hr : w.ownsRow 0 62 65 v n xs) (h1 : ∀ u ∈ xs, u.oneCell' = true) (hn : n ≤ 1073741824) :
    Calls Try.prog 19 #[v] w fun e w' => ∃ v', e = .returned v' ∧ w'.ownsRow w.heap.size 62 65 v' n xs ∧ Below w.heap.size w w' := by
  have hl := hr.1
  rcases hr.2 with ⟨rfl, rfl⟩ | ⟨g, c, cur, rfl, _, hg, hle, hcm, hsz, hxs⟩
  · have hq := fun u : World => Lib.run_eql_slice_nil (P := Try.prog) u 57 62 none 0 0 0 0 Try.underlying57
    have : xs = [] := List.length_eq_zero_iff.1 hl
    subst this
    go_enter Try.func19, Try.ntmps19
    go_wp2
    go_ret
    exact ⟨_, rfl, World.ownsRow_nil _ _ _ _, Below.refl _ _⟩
  · have hq := fun u : World => Lib.run_eql_slice_nil (P := Try.prog) u 57 62 (some ⟨g, 0, none⟩) n c 0 0 Try.underlying57
    obtain ⟨i0, hi, hz0, hz1, hz2⟩ := info_parts infoW
    have hb0 : Below w.heap.size w (w.alloc (.cells #[] 62)) := (Below.refl _ _).alloc (Nat.le_refl _) _
    have hc : ∀ j u, xs[j]? = some u → (w.alloc (.cells #[] 62)).cell? ((⟨g, 0, none⟩ : Addr).add j) = some u := fun j u hu => by
      have hj := (List.getElem?_eq_some_iff.1 hu).1
      have hadd : (⟨g, 0, none⟩ : Addr).add j = ⟨g, j, none⟩ := by unfold Addr.add; split <;> simp_all
      have hlt := (Array.getElem?_eq_some_iff.1 hg).1
      rw [hadd, World.cell?_of_block (w := w) (heapOld _ _ _ hlt)]
      simp only [World.cell?, hg]
      rw [← hxs, List.getElem?_take_of_lt (by omega)] at hu
      simpa using hu
    have HO : Hid ((w.alloc (.cells #[] 62)).ownsRow w.heap.size 62 65 (.slice (some ⟨w.heap.size, 0, none⟩) 0 0) 0 [] ∧ Below w.heap.size w (w.alloc (.cells #[] 62)) ∧ ∀ j u, xs[j]? = some u → (w.alloc (.cells #[] 62)).cell? ((⟨g, 0, none⟩ : Addr).add j) = some u) :=
      ⟨World.ownsRow_lit w #[] 0 (Nat.le_refl _) (Nat.zero_le _) rfl, hb0, hc⟩
    clear hc hb0 hr hg hxs hsz
    go_enter Try.func19, Try.ntmps19
    go_wp2_with (at_builtin; refine wpList_append_own _ rfl _ _ 57 rfl w.heap.size 62 i0 _ 65 72 Try.underlying57 hi hz0 hz1 hz2 rfl (by omega) _ 0 [] rfl HO.out.1 ⟨g, 0, none⟩ n c xs rfl (by omega) HO.out.2.2 h1 (by unfold maxLen; omega) (by omega) (by simp) ?_; intro v' w1 ho1 hg1 _)
    rw [List.nil_append, Nat.zero_add] at ho1
    obtain ⟨a', c', rfl⟩ := ownsRow_form ho1
    have hb1 : Below w.heap.size w w1 := HO.out.2.1.grown hg1 (by simp) (fun k hk => Nat.le_of_eq (Option.some.inj hk))
    go_ret
    exact ⟨_, rfl, ho1, hb1⟩
end Go.Proofs.Ytglknmelcianjaa
