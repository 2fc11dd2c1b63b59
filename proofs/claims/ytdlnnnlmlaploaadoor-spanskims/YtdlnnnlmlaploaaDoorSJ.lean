import Derived.Test.YtdlnnnlmlaploaaDoorSI
import Derived.Test.YtdlnnnlmlaploaaDoorDed
namespace Go.Proofs.YtdlnnnlmlaploaaDoor
/-! ### What Skim shows is the spans of the tree: plain lists -/
def Sp.v (s : Sp) : Vi := ⟨s.kind, s.fr, s.to, s.dep, s.up, s.nth, s.key, 0, 0⟩
def Vi.o (v : Vi) : Vi := { v with pl := 0, fi := 0 }
theorem spW_o (l : List Vi) : spW l = spW (l.map Vi.o) := by unfold spW; rw [List.map_map]; rfl
theorem modify_mid {α : Type} (f : α → α) (x : α) (B : List α) : ∀ A : List α, (A ++ x :: B).modify A.length f = A ++ f x :: B
  | [] => rfl
  | a :: A => by show a :: (A ++ x :: B).modify A.length f = _; rw [modify_mid f x B A]; rfl
theorem map_modify {α β : Type} (g : α → β) (f : α → α) (f' : β → β) (h : ∀ x, g (f x) = f' (g x)) : ∀ (l : List α) (k : Nat), (l.modify k f).map g = (l.map g).modify k f'
  | [], k => by cases k <;> rfl
  | x :: l, 0 => by show g (f x) :: l.map g = f' (g x) :: l.map g; rw [h]
  | x :: l, k + 1 => by show g x :: (l.modify k f).map g = g x :: (l.map g).modify k f'; rw [map_modify g f f' h l k]
theorem sk_app {h : List Vi} {v : Vi} (hp : v.pl = ((sk h).length : Int)) : (sk (h ++ [v])).map Vi.o = (sk h).map Vi.o ++ [v.o] := by
  rw [sk_snoc]
  unfold skStep
  rw [if_pos hp, hp]
  have := modify_mid (fun x : Vi => { x with to := v.to }) v [] (sk h)
  rw [show ((sk h).length : Int).toNat = (sk h).length from rfl, this, List.map_append]
  rfl
theorem sk_end {h : List Vi} {v : Vi} {k : Nat} (hp : v.pl = (k : Int)) (hk : k < (sk h).length) : (sk (h ++ [v])).map Vi.o = ((sk h).map Vi.o).modify k (fun x => { x with to := v.to }) := by
  rw [sk_snoc]
  unfold skStep
  rw [if_neg (by omega), hp]
  exact map_modify Vi.o (fun x => { x with to := v.to }) (fun x => { x with to := v.to }) (fun _ => rfl) (sk h) k
def Lv.o (l : Lv) : Vi := ⟨l.kd, l.fr, 0, l.dp, l.up, l.nt, l.ky, 0, 0⟩
structure LBs (l : Lv) (f : Fr) (s : List Fr) : Prop where
  o : l.o = ({ dueS s with kind := f.kd, to := 0 } : Sp).v
  pl : l.pl = ((stS s).1.length : Int)
/-- a level whose frame waits for a value -/
structure LW (l : Lv) (f : Fr) (s : List Fr) : Prop where
  bs : LBs l f s
  pa : l.pa = (f.num : Int) + 1
  kk : l.kk = f.ky
  has : f.d = true → f.has = true
/-- a level between two values -/
structure LB (l : Lv) (f : Fr) (s : List Fr) : Prop where
  bs : LBs l f s
  pa : l.pa = (f.num : Int)
  kl : f.d = false → l.kk = ByteArray.empty
  has : f.d = true → f.has = false
  kd : f.d = true → f.ps ≠ [] → l.kk = (f.ps.getLastD (ByteArray.empty, .no)).1
def LRw : List Lv → List Fr → Prop
  | [], [] => True
  | l :: r, f :: s => LW l f s ∧ LRw r s
  | _, _ => False
theorem LRw.len : ∀ {ls : List Lv} {st : List Fr}, LRw ls st → ls.length = st.length
  | [], [], _ => rfl
  | _ :: _, _ :: _, h => congrArg (· + 1) h.2.len
  | [], _ :: _, h => h.elim
  | _ :: _, [], h => h.elim
theorem due_o {ls : List Lv} {st : List Fr} {i n : Nat} (h : LRw ls st) (hi : i = (stx st).length) : Vi.o (dueV ls i n) = (dueS st).v := by
  match ls, st, h with
  | [], [], _ => subst hi; rfl
  | l :: r, f :: s, h =>
    obtain ⟨h1, h2⟩ := h
    show (⟨0, (i : Int), 0, ((r.length + 1 : Nat) : Int), l.pl, l.pa - 1, l.kk, 0, 0⟩ : Vi) = ⟨0, ((stx (f :: s)).length : Int), 0, ((s.length + 1 : Nat) : Int), ((stS s).1.length : Int), (f.num : Int), f.ky, 0, 0⟩
    rw [h1.bs.pl, h1.pa, h1.kk, h2.len, hi, show (f.num : Int) + 1 - 1 = f.num by omega]
/-- the reader's plain counterpart -/
def PI (b : List UInt8) (h : List Vi) : RS → Prop
  | .val ls i _ => ∃ st, Run b (.go [] 0) (.go st i) ∧ Waits b st i ∧ LRw ls st ∧ (sk h).map Vi.o = (stS st).1.map Sp.v
  | .mid [] i _ => ∃ t, Run b (.go [] 0) (.val t i) ∧ (sk h).map Vi.o = (walkT t 0 (dueS [])).map Sp.v
  | .mid (l :: r) i _ => ∃ f s, Run b (.go [] 0) (.go (f :: s) i) ∧ LB l f s ∧ LRw r s ∧ (sk h).map Vi.o = (stS (f :: s)).1.map Sp.v
theorem run_at {b : List UInt8} (hlim : b.length ≤ 1048576) {st : List Fr} {i : Nat} (h : Run b (.go [] 0) (.go st i)) : i ≤ b.length ∧ i = (stx st).length := by
  obtain ⟨h1, h2, _⟩ := oi_run (by omega) h (⟨Nat.zero_le _, rfl, trivial⟩ : OI b (.go [] 0))
  refine ⟨h1, ?_⟩
  rw [← h2, List.length_take]
  omega
theorem run_atv {b : List UInt8} (hlim : b.length ≤ 1048576) {t : T} {i : Nat} (h : Run b (.go [] 0) (.val t i)) : i ≤ b.length ∧ i = (txt t).length := by
  obtain ⟨h1, h2, _⟩ := run_txt (by omega) h
  refine ⟨h1, ?_⟩
  rw [← h2, List.length_take]
  omega
theorem Run.snoc {b : List UInt8} {st : List Fr} {i : Nat} {o p : Out} (h : Run b o (.go st i)) (e : step b st i = p) : Run b o p := h.trans (.one e)
/-- a tree is delivered to a stack that waits: what stands behind -/
theorem deliver_PI {b : List UInt8} {h' : List Vi} {ls : List Lv} {st : List Fr} {t : T} {j n : Nat} (hr : Run b (.go [] 0) (deliver st t j)) (hw : LRw ls st) (hs : (sk h').map Vi.o = ((stS st).1 ++ walkT t (stS st).1.length (dueS st)).map Sp.v) : PI b h' (.mid ls j n) := by
  match ls, st, hw with
  | [], [], _ => exact ⟨t, hr, hs⟩
  | l :: r, f :: s, hw =>
    obtain ⟨h1, h2⟩ := hw
    refine ⟨f.join t, s, hr, ⟨⟨?_, h1.bs.pl⟩, ?_, fun hd => ?_, fun hd => ?_, fun hd _ => ?_⟩, h2, by rw [stS_join h1.has]; exact hs⟩
    · rw [h1.bs.o]
      unfold Fr.join Fr.kd
      by_cases hd : f.d = true
      · simp [hd]
      · simp [hd]
    · rw [h1.pa]
      unfold Fr.join Fr.num
      by_cases hd : f.d = true
      · simp [hd]
      · simp [hd]
    · rw [h1.kk]
      unfold Fr.join at hd
      unfold Fr.ky
      by_cases hd2 : f.d = true
      · rw [if_pos hd2] at hd; cases hd
      · rw [if_neg hd2]
    · unfold Fr.join at hd ⊢
      by_cases hd2 : f.d = true
      · rw [if_pos hd2]
      · rw [if_neg hd2] at hd; cases hd
    · unfold Fr.join at hd ⊢
      by_cases hd2 : f.d = true
      · rw [if_pos hd2, h1.kk]
        unfold Fr.ky
        rw [if_pos hd2]
        simp
      · rw [if_neg hd2] at hd; cases hd
theorem Rch.plain {b : List UInt8} (hlim : b.length ≤ 1048576) {h : List Vi} {s : RS} (H : Rch b gT h s) : PI b h s := by
  induction H with
  | start => exact ⟨[], .refl _, waits_nil _ _, trivial, rfl⟩
  | @value h ls i n v ls' i' hr hv _ ih =>
    obtain ⟨st, h1, h2, h3, h4⟩ := ih
    obtain ⟨hi, hx⟩ := run_at hlim h1
    obtain ⟨pn, _⟩ := hr.places
    have pn' : (sk h).length = n := pn
    have hd := due_o (n := n) h3 hx
    have hL : (stS st).1.length = n := by rw [← pn', ← List.length_map (f := Vi.o), h4, List.length_map]
    rcases hv with ⟨t, j, c1, c2, c3, rfl, rfl, rfl⟩ | ⟨c1, c2, c3, rfl, rfl⟩
    · have e := step_leaf hi h2 c1 c2
      rw [c3] at e
      obtain ⟨q1, q2, q3⟩ := leaf_val hi hlim c1 c2 c3
      refine deliver_PI (h1.snoc e) h3 ?_
      rw [sk_app (by rw [pn']; exact (due_fr' ls' i n).2.2.1), h4, leaf_walk q3, List.map_append]
      congr 1
      show [_] = [_]
      congr 1
      have hv : Vi.o { dueV ls' i n with kd := t.k, to := (i : Int) + (j : Int) } = { Vi.o (dueV ls' i n) with kd := t.k, to := (i : Int) + (j : Int) } := rfl
      rw [hv, hd]
      have : (dueS st).fr = i := by unfold dueS; rw [due_fr, hx]
      simp only [Sp.v, this, q2, Int.natCast_add]
    · have hl : st.length < 32 := by rw [← h3.len]; exact c2
      have key : ∀ (d : Bool) (kdv : Int), kdv = (if d = true then 4 else 3) → v = { dueV ls i n with kd := kdv } → step b st i = .go ({ d := d } :: st) (i + 1) → PI b (h ++ [v]) (.mid (newL v :: ls) (i + 1) (n + 1)) := by
        intro d kdv hk hv hst
        subst hv
        refine ⟨{ d := d }, st, h1.snoc hst, ⟨⟨?_, ?_⟩, ?_, fun _ => rfl, fun _ => rfl, fun _ hp => absurd rfl hp⟩, h3, ?_⟩
        · have e1 : (newL { dueV ls i n with kd := kdv }).o = { Vi.o (dueV ls i n) with kd := kdv, to := 0 } := rfl
          rw [e1, hd, hk]
          rfl
        · show (dueV ls i n).pl = _
          rw [(due_fr' ls i n).2.2.1, hL]
        · show (0 : Int) = _
          unfold Fr.num
          cases d <;> rfl
        · rw [sk_app (by rw [pn']; exact (due_fr' ls i n).2.2.1), h4, stS_open, List.map_append]
          congr 1
          show [_] = [_]
          congr 1
          have e1 : Vi.o { dueV ls i n with kd := kdv } = { Vi.o (dueV ls i n) with kd := kdv } := rfl
          rw [e1, hd, hk]
          show (⟨_, _, ((dueS st).to : Int), _, _, _, _, _, _⟩ : Vi) = ⟨_, _, 0, _, _, _, _, _, _⟩
          have : (dueS st).to = 0 := by unfold dueS; cases st <;> rfl
          rw [this]
          rfl
      rcases c3 with ⟨c3, hv⟩ | ⟨c3, hv⟩
      · exact key false 3 rfl hv (by rw [sx_list c1 h2 c3, if_neg (by omega)])
      · exact key true 4 rfl hv (by rw [sx_dict c1 h2 c3, if_neg (by omega)])
  | @part h l r i n l' i' hr hb hp ih =>
    obtain ⟨f, s, h1, h2, h3, h4⟩ := ih
    obtain ⟨hi, hx⟩ := run_at hlim h1
    have hkd : l.kd = f.kd := by have := congrArg Vi.kd h2.bs.o; exact this
    rcases hp with ⟨c1, rfl, rfl⟩ | ⟨c1, c2, t, j, c3, c4, rfl, rfl⟩
    · have hd : f.d = false := by
        rw [c1] at hkd
        unfold Fr.kd at hkd
        cases hf : f.d with
        | false => rfl
        | true => rw [hf] at hkd; cases hkd
      refine ⟨f :: s, h1, fun f' r' e => ?_, ⟨⟨⟨h2.bs.o, h2.bs.pl⟩, by show l.pa + 1 = _; rw [h2.pa], ?_, fun e => by rw [hd] at e; cases e⟩, h3⟩, h4⟩
      · injection e with e1 e2; subst e1; exact ⟨(fun e => by rw [hd] at e; cases e), fun _ => hb⟩
      · show l.kk = f.ky
        rw [h2.kl hd]
        unfold Fr.ky
        rw [hd]
        rfl
    · have hd : f.d = true := by
        rw [c1] at hkd
        unfold Fr.kd at hkd
        cases hf : f.d with
        | true => rfl
        | false => rw [hf] at hkd; cases hkd
      have e := sx_key (r := s) hi hd (h2.has hd) hb (fun e => c2 (.inr (.inl e))) (fun e => c2 (.inr (.inr e))) (fun e => c2 (.inl e))
      rw [c3] at e
      have hn : ¬ (f.ps ≠ [] ∧ leB t.s (f.ps.getLastD (ByteArray.empty, .no)).1 = true) := fun ⟨e1, e2⟩ => c4 ⟨by
        rw [h2.pa]
        unfold Fr.num
        rw [if_pos hd]
        have := List.length_pos_iff.2 e1
        omega, by rw [h2.kd hd e1]; exact e2⟩
      dsimp only at e
      rw [if_neg hn] at e
      refine ⟨{ f with key := t.s, has := true } :: s, h1.snoc e, fun f' r' e => ?_, ⟨⟨⟨h2.bs.o, h2.bs.pl⟩, by show l.pa + 1 = _; rw [h2.pa]; rfl, ?_, fun _ => rfl⟩, h3⟩, h4⟩
      · injection e with e1 e2; subst e1; exact ⟨fun _ => rfl, fun e => by rw [show ({ f with key := t.s, has := true } : Fr).d = f.d from rfl, hd] at e; cases e⟩
      · show t.s = Fr.ky { f with key := t.s, has := true }
        unfold Fr.ky
        rw [if_pos hd]
  | @close h l r i n hr hi hb _ ih =>
    obtain ⟨f, s, h1, h2, h3, h4⟩ := ih
    have e := sx_end (r := s) hi h2.has hb
    have hr' := h1.snoc e
    refine deliver_PI hr' h3 ?_
    obtain ⟨pn, pl⟩ := hr.places
    have hlt := pl l (by simp [RS.ls])
    have pn' : (sk h).length = n := pn
    have hlt' : l.pl < (n : Int) := hlt.2
    have hpl : (endV l i).pl = ((stS s).1.length : Int) := h2.bs.pl
    rw [sk_end hpl (by have := h2.bs.pl; omega), h4, stS_close, stS_top, List.map_append, List.map_cons, List.map_append, List.map_cons]
    have hm := modify_mid (fun x : Vi => { x with to := (endV l i).to }) (({ dueS s with kind := f.kd, to := 0 } : Sp).v) ((f.rest (stS s).1.length (dueS s)).map Sp.v) ((stS s).1.map Sp.v)
    rw [List.length_map] at hm
    rw [hm]
    have hlen : i + 1 = (stx s).length + (txt f.close).length := by
      match s, r, h3, hr' with
      | [], [], _, hr' => have := (run_atv hlim hr').2; simpa [stx] using this
      | g :: u, l2 :: r2, h3, hr' =>
        have h5 := (run_at hlim hr').2
        rw [h5]
        show (stx u ++ (g.join f.close).tx).length = (stx u ++ g.tx).length + _
        rw [join_tx h3.1.has, List.length_append, List.length_append, List.length_append]
        omega
    have hE : ({ (({ dueS s with kind := f.kd, to := 0 } : Sp).v) with to := (endV l i).to } : Vi) = (endS f s).v := by
      have : (endV l i).to = (((stx s).length + (txt f.close).length : Nat) : Int) := by rw [← hlen]; rfl
      rw [this]
      rfl
    rw [hE]
end Go.Proofs.YtdlnnnlmlaploaaDoor
