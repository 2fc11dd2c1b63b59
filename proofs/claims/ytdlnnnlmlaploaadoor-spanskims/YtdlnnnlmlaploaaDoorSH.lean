import Derived.Test.YtdlnnnlmlaploaaDoorSG
import Derived.OwnWalk
namespace Go.Proofs.YtdlnnnlmlaploaaDoor
open Go.RowKit Go.Deep
theorem skStep_len (l : List Vi) (v : Vi) : (skStep l v).length = if v.pl = (l.length : Int) then l.length + 1 else l.length := by
  unfold skStep
  rw [List.length_modify]
  split
  · rw [List.length_append]; rfl
  · rfl
abbrev gT : List Vi → Bool := fun _ => true
def RS.ls : RS → List Lv
  | .val ls _ _ => ls
  | .mid ls _ _ => ls
def RS.n : RS → Nat
  | .val _ _ n => n
  | .mid _ _ n => n
/-- the places of what is open; as many spans as values have begun -/
theorem Rch.places {b : List UInt8} {go : List Vi → Bool} {h : List Vi} {s : RS} (H : Rch b go h s) : (sk h).length = s.n ∧ ∀ l ∈ s.ls, 0 ≤ l.pl ∧ l.pl < (s.n : Int) := by
  induction H with
  | start => exact ⟨rfl, fun l hl => by cases hl⟩
  | @value h ls i n v ls' i' _ hv _ ih =>
    obtain ⟨a1, a2⟩ := ih
    have a1' : (sk h).length = n := a1
    have a2' : ∀ l ∈ ls, 0 ≤ l.pl ∧ l.pl < (n : Int) := a2
    have hp : v.pl = (n : Int) := by
      rcases hv with ⟨t, j, _, _, _, rfl, _, _⟩ | ⟨_, _, c3, _, _⟩
      · exact (due_fr' ls i n).2.2.1
      · rcases c3 with ⟨_, rfl⟩ | ⟨_, rfl⟩ <;> exact (due_fr' ls i n).2.2.1
    refine ⟨by rw [sk_snoc, skStep_len, if_pos (by rw [a1']; exact hp), a1']; rfl, ?_⟩
    show ∀ l ∈ ls', 0 ≤ l.pl ∧ l.pl < ((n + 1 : Nat) : Int)
    rcases hv with ⟨t, j, _, _, _, _, rfl, _⟩ | ⟨_, _, _, rfl, _⟩
    · intro l hl; have := a2' l hl; omega
    · intro l hl
      rcases List.mem_cons.1 hl with rfl | hl
      · show 0 ≤ v.pl ∧ v.pl < _; omega
      · have := a2' l hl; omega
  | @part h l r i n l' i' _ _ hp ih =>
    obtain ⟨a1, a2⟩ := ih
    refine ⟨a1, ?_⟩
    have a2' : ∀ x ∈ l :: r, 0 ≤ x.pl ∧ x.pl < (n : Int) := a2
    show ∀ x ∈ l' :: r, 0 ≤ x.pl ∧ x.pl < (n : Int)
    intro x hx
    rcases List.mem_cons.1 hx with rfl | hx
    · have := a2' l (by simp)
      rcases hp with ⟨_, rfl, _⟩ | ⟨_, _, t, j, _, _, rfl, _⟩ <;> exact this
    · exact a2' x (by simp [hx])
  | @close h l r i n _ _ _ _ ih =>
    obtain ⟨a1, a2⟩ := ih
    have a1' : (sk h).length = n := a1
    have a2' : ∀ x ∈ l :: r, 0 ≤ x.pl ∧ x.pl < (n : Int) := a2
    have hl := a2' l (by simp)
    refine ⟨?_, fun x hx => a2' x (by simp; exact .inr hx)⟩
    rw [sk_snoc, skStep_len, if_neg (by show ¬ l.pl = _; rw [a1']; omega), a1']
    rfl
/-- what Skim's visitor keeps -/
def JS (Bs B : Nat) (h : List Vi) (w : World) (S : Nat → Prop) : Prop :=
  Bs < B ∧ B ≤ w.heap.size ∧ ∃ sv, blk w Bs 37 #[sv] ∧ w.ownsRow B 45 7 sv (sk h).length (spW (sk h)) ∧ ∀ k, S k ↔ (k = Bs ∨ sv.ownBlock = some k)
theorem visS {b : List UInt8} (hlim : b.length ≤ 1048576) {A Bs B : Nat} (hA : A ≤ Bs) : Vis b 27 #[.pointer (some ⟨Bs, 0, none⟩)] gT (JS Bs B) A where
  keep := fun h w w' S ⟨h1, h2, sv, h3, h4, h5⟩ hs hk => by
    refine ⟨h1, Nat.le_trans h2 hs, sv, h3.keep (hk Bs ((h5 Bs).2 (.inl rfl))), ?_, h5⟩
    refine ⟨h4.1, ?_⟩
    rcases h4.2 with e | ⟨g, cap, cur, q1, q2, q3, q4⟩
    · exact .inl e
    · exact .inr ⟨g, cap, cur, q1, q2, (hk g ((h5 g).2 (.inr (by rw [q1]; rfl)))).trans q3, q4⟩
  own := fun h w S ⟨h1, h2, sv, h3, h4, h5⟩ k hk => by
    rcases (h5 k).1 hk with rfl | hk
    · exact ⟨hA, _, _, _, h3, by decide, by decide⟩
    · rcases h4.2 with ⟨rfl, _⟩ | ⟨g, cap, cur, rfl, q2, q3, q4⟩
      · cases hk
      · cases hk; exact ⟨by show A ≤ g; omega, _, _, _, q3, by decide, by decide⟩
  enter := fun args w => by
    show (callFunc 27 args).run Tryd.prog w = .ok (.enter 27 args) w
    kernel_rfl
  call := fun h w S v ⟨h1, h2, sv, h3, h4, h5⟩ hx => by
    have hp : (v.pl = ((sk h).length : Int) ∨ (0 ≤ v.pl ∧ v.pl < ((sk h).length : Int))) ∧ (sk h).length ≤ 1048576 := by
      rcases hx with ⟨ls, i, n, ls', i', hr, hv⟩ | ⟨l, r, i, n, hr, hi, _, rfl⟩
      · obtain ⟨a1, _⟩ := hr.places
        have a3 := hr.ok hlim
        have a1' : (sk h).length = n := a1
        have a4 : n ≤ i := a3.2.1
        have a5 : i ≤ b.length := a3.1
        refine ⟨.inl ?_, by omega⟩
        rw [a1']
        rcases hv with ⟨t, j, _, _, _, rfl, _, _⟩ | ⟨_, _, c3, _, _⟩
        · exact (due_fr' ls i n).2.2.1
        · rcases c3 with ⟨_, rfl⟩ | ⟨_, rfl⟩ <;> exact (due_fr' ls i n).2.2.1
      · obtain ⟨a1, a2⟩ := hr.places
        have a1' : (sk h).length = n := a1
        have a3 := hr.ok hlim
        have a4 : n ≤ i := a3.2.1
        have := a2 l (by simp [RS.ls])
        exact ⟨.inr (by rw [a1']; exact this), by omega⟩
    refine (skim27 h1 h2 v (sk h) sv h3 h4 hp.1 hp.2).mono ?_
    rintro e w' ⟨rfl, sv', k1, k2, k3, k4⟩
    refine ⟨rfl, fun k => k = Bs ∨ sv'.ownBlock = some k, ⟨h1, Nat.le_trans h2 k3.size, sv', k1, by rw [sk_snoc]; exact k2, fun k => Iff.rfl⟩, ⟨k3.os, k3.tape, k3.output, k3.size, fun k hk hn => k3.block k hk (fun e => hn ((h5 k).2 (.inl e))) (fun e => hn ((h5 k).2 (.inr e))), fun k hk => ?_⟩⟩
    rcases hk with rfl | hk
    · exact .inl ((h5 _).2 (.inl rfl))
    · rcases k4 with e | ⟨g, e, hg⟩
      · exact .inl ((h5 _).2 (.inr (e ▸ hk)))
      · rw [e] at hk; injection hk with hk; subst hk; exact .inr hg
end Go.Proofs.YtdlnnnlmlaploaaDoor
