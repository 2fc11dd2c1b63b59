import Derived.Test.YtldkecjfjcnkfaaGm
import Derived.Test.YtldkecjfjcnkfaaGet
namespace Go.Proofs.Ytldkecjfjcnkfaa
open Go.RowKit Go.Deep
theorem tG_small {es : List PE} (hl : es.length ≤ 2147483647) (h : ∀ e ∈ es, e.t.small) : (tG es).small := by
  refine ⟨Nat.zero_le _, hl, fun i hi => absurd hi (Nat.not_lt_zero _), fun i hi => ?_⟩
  rw [dvG_at hi]
  exact h _ (List.getElem_mem hi)
theorem LD.none {es0 es : List PE} (h : LD es0 [] es) : es = es0 := by
  generalize hq : ([] : List PE) = q at h
  cases h with
  | nil => rfl
  | skip _ _ => simp at hq
  | put _ _ _ _ => simp at hq
theorem get47G (es : List PE) (v : Value) (w : World) (hok : (tG es).ok) (hsm : (tG es).small) (hg : wk (tG es) 0 = 0) (h : RD (fun _ => True) w es.length (kyG es) (dvG es) v) :
    Calls Try.prog 47 #[.agg #[.int .i64 4, .int .i64 0, .string ⟨#[]⟩, .slice none 0 0, v], .slice none 0 0] w fun e w' => ∃ xa xn xc ya yc, e = .returned (.tuple #[.agg #[.int .i64 4, .int .i64 0, .string ⟨#[]⟩, .slice xa xn xc, .slice ya es.length yc], .int .i64 0]) ∧ RD (fun b => w.heap.size ≤ b) w' es.length (kyG es) (dvG es) (.slice ya es.length yc) ∧ Below w.heap.size w w' ∧ capd (.slice ya es.length yc) := by
  have e : getS (tG es) (fun _ => ⟨#[]⟩) 0 = (tG es, 0) := by
    unfold getS
    rw [if_neg (by rw [hg]; decide)]
    rfl
  refine (get16 (tG es) (.slice none 0 0) v (.slice none 0 0) (fun _ => ⟨#[]⟩) 0 w hok hsm ⟨⟨none, 0, rfl, .inl rfl⟩, h⟩ ⟨none, 0, rfl, .inl rfl⟩ (Nat.zero_le _)).mono ?_
  rintro en w' ⟨x', y', rfl, hrv, b, -, hcd⟩
  rw [e] at hrv ⊢
  obtain ⟨⟨xa, xc, rfl, _⟩, hy⟩ := hrv
  have hy2 : RD (fun b => w.heap.size ≤ b) w' es.length (kyG es) (dvG es) y' := hy
  obtain ⟨ya, yc, rfl, _⟩ := hy
  exact ⟨xa, _, xc, ya, yc, rfl, hy2, b, hcd⟩
set_option maxHeartbeats 2000000 in
theorem copied38 (v : Value) (es : List PE) (w : World) (hr : RG w.heap.size w v es) (hn : es.length ≤ 2147483000) (hok : ∀ e ∈ es, e.key.size ≤ 140737488351232 ∧ e.t.ok) (hsm : ∀ e ∈ es, e.t.small) (hg : wk (tG es) 0 = 0) :
    Calls Try.prog 38 #[v] w fun e w' => ∃ y', e = .returned y' ∧ RD (fun b => w.heap.size ≤ b) w' es.length (kyG es) (dvG es) y' ∧ Below w.heap.size w w' ∧ capd y' := by
  have HD := Lib.hid (dictionary48 es [] v none 0 w hr (.inl rfl) (fun e he => by cases he) (by simp; omega))
  have HG : Hid (∀ v' w', RD (fun _ => True) w' es.length (kyG es) (dvG es) v' → Calls Try.prog 47 #[.agg #[.int .i64 4, .int .i64 0, .string ⟨#[]⟩, .slice none 0 0, v'], .slice none 0 0] w' fun e w'' => ∃ xa xn xc ya yc, e = .returned (.tuple #[.agg #[.int .i64 4, .int .i64 0, .string ⟨#[]⟩, .slice xa xn xc, .slice ya es.length yc], .int .i64 0]) ∧ RD (fun b => w'.heap.size ≤ b) w'' es.length (kyG es) (dvG es) (.slice ya es.length yc) ∧ Below w'.heap.size w' w'' ∧ capd (.slice ya es.length yc)) := fun v' w' h => get47G es v' w' (tG_ok (by omega) hok) (tG_small (by omega) hsm) hg h
  obtain ⟨a, c, rfl, -⟩ := hr
  clear hok hsm hg
  go_enter Try.func38, Try.ntmps38
  go_wp2_with fail
  refine HD.out.mono ?_
  rintro en w1 ⟨v', es', rfl, hld, hgr, b1⟩
  obtain rfl := hld.none
  have HR := Lib.hid hgr.rd
  have HB : Hid (Below w.heap.size w w1) := b1
  obtain ⟨va, vc, rfl⟩ := hgr.form
  clear hgr b1 HD hld
  go_wp2_with fail
  refine (HG.out _ w1 HR.out).mono ?_
  rintro en w2 ⟨xa, xn, xc, ya, yc, rfl, hrd, b2, hcd⟩
  have HCD := Lib.hid hcd
  have H2 : Hid (RD (fun b => w.heap.size ≤ b) w2 es'.length (kyG es') (dvG es') (.slice ya es'.length yc) ∧ Below w.heap.size w w2) := ⟨RD.keep (fun b h => Nat.le_trans HB.out.size h) (Nat.le_refl _) (fun _ _ _ => rfl) hrd, HB.out.trans (b2.mono HB.out.size)⟩
  clear hrd b2 HG HR HB hcd
  go_wp2
  go_ret
  refine ⟨_, rfl, rd_keep ((Below.refl _ _).alloc (Nat.le_refl _) _) (fun _ h => h) H2.out.1, H2.out.2.alloc H2.out.2.size _, HCD.out⟩
end Go.Proofs.Ytldkecjfjcnkfaa
