import Derived.Test.YtldkecjfjcnkfaaGf
namespace Go.Proofs.Ytldkecjfjcnkfaa
open Go.RowKit Go.Deep
def tG (es : List PE) : T := .mk 4 0 ⟨#[]⟩ 0 (fun _ => .no) es.length (kyG es) (dvG es)
def nI (b : Bool) (n : Int) : T := if b then tn n else tz
def sI (b : Bool) (s : ByteArray) : T := if b then ts s else tz
/-- the own pairs of a wish -/
def ownQ (ns : List (ByteArray × Int)) (sz qu : Int) (ag : ByteArray) (ab : Bool) (yv : Value) : List PE :=
  [⟨kM, tG (nE ns), .slice none 0 0, yv⟩, leaf kZ (nI (sz != 0) sz), leaf kQ (nI (qu != 0) qu), leaf kV (sI ab ag)]
def ownP (ns : List (ByteArray × Int)) (sz qu : Int) (ag : ByteArray) (yv : Value) : List PE := ownQ ns sz qu ag (!ag.toList == []) yv
theorem LD.mem {es0 os es : List PE} (h : LD es0 os es) : ∀ e ∈ es, e ∈ es0 ∨ e ∈ os := by
  induction h with
  | nil => exact fun e he => .inl he
  | skip _ _ ih => exact fun e he => (ih e he).imp_right (fun h => List.mem_append_left _ h)
  | put _ _ _ _ ih =>
    intro e he
    rcases List.mem_append.1 he with h | h
    · exact (ih e (List.mem_of_mem_take h)).imp_right (fun h => List.mem_append_left _ h)
    · rcases List.mem_cons.1 h with rfl | h
      · exact .inr (by simp)
      · exact (ih e (List.mem_of_mem_drop h)).imp_right (fun h => List.mem_append_left _ h)
theorem LD.len {es0 os es : List PE} (h : LD es0 os es) : es.length ≤ es0.length + os.length := by
  induction h with
  | nil => simp
  | skip _ _ ih => simp; omega
  | put _ _ hh _ ih => simp; omega
theorem tG_ok {es : List PE} (hl : es.length ≤ 140737488351232) (h : ∀ e ∈ es, e.key.size ≤ 140737488351232 ∧ e.t.ok) : (tG es).ok := by
  refine ⟨by decide, Nat.zero_le _, hl, fun i hi => absurd hi (Nat.not_lt_zero _), fun i hi => ?_⟩
  have e : es[i]? = some es[i] := List.getElem?_eq_getElem hi
  have g := getD_of e
  unfold kyG dvG
  rw [g]
  exact h _ (List.getElem_mem hi)
theorem nI_ok (b : Bool) (n : Int) : (nI b n).ok := by
  unfold nI
  split
  · exact ⟨by decide, Nat.zero_le _, Nat.zero_le _, fun i hi => absurd hi (Nat.not_lt_zero _), fun i hi => absurd hi (Nat.not_lt_zero _)⟩
  · exact ⟨by decide, Nat.zero_le _, Nat.zero_le _, fun i hi => absurd hi (Nat.not_lt_zero _), fun i hi => absurd hi (Nat.not_lt_zero _)⟩
theorem sI_ok (b : Bool) (s : ByteArray) (h : s.size ≤ 140737488351232) : (sI b s).ok := by
  unfold sI
  split
  · exact ⟨h, Nat.zero_le _, Nat.zero_le _, fun i hi => absurd hi (Nat.not_lt_zero _), fun i hi => absurd hi (Nat.not_lt_zero _)⟩
  · exact ⟨by decide, Nat.zero_le _, Nat.zero_le _, fun i hi => absurd hi (Nat.not_lt_zero _), fun i hi => absurd hi (Nat.not_lt_zero _)⟩
theorem rv_nI (S : Nat → Prop) (w : World) (b : Bool) (n : Int) : RV S w (nI b n) (.slice none 0 0) (.slice none 0 0) := by
  unfold nI
  split
  · exact rv_leaf _ _ _ _ _
  · exact rv_leaf _ _ _ _ _
theorem rv_sI (S : Nat → Prop) (w : World) (b : Bool) (n : ByteArray) : RV S w (sI b n) (.slice none 0 0) (.slice none 0 0) := by
  unfold sI
  split
  · exact rv_leaf _ _ _ _ _
  · exact rv_leaf _ _ _ _ _
theorem own_ok {ns : List (ByteArray × Int)} {sz qu : Int} {ag : ByteArray} {ab : Bool} {yv : Value} (hl : ns.length ≤ 140737488351232) (hn : ∀ x ∈ ns, x.1.size ≤ 140737488351232) (ha : ag.size ≤ 140737488351232) : ∀ e ∈ ownQ ns sz qu ag ab yv, e.key.size ≤ 140737488351232 ∧ e.t.ok := by
  intro e he
  simp only [ownQ, List.mem_cons, List.not_mem_nil, or_false] at he
  rcases he with rfl | rfl | rfl | rfl
  · refine ⟨by show kM.size ≤ _; decide, tG_ok (by rw [nE_len]; exact hl) (fun e he => ?_)⟩
    obtain ⟨x, hx, rfl⟩ := List.mem_map.1 he
    exact ⟨hn x hx, by decide, Nat.zero_le _, Nat.zero_le _, fun i hi => absurd hi (Nat.not_lt_zero _), fun i hi => absurd hi (Nat.not_lt_zero _)⟩
  · exact ⟨by show kZ.size ≤ _; decide, nI_ok _ _⟩
  · exact ⟨by show kQ.size ≤ _; decide, nI_ok _ _⟩
  · exact ⟨by show kV.size ≤ _; decide, sI_ok _ _ ha⟩
theorem own_rv {S : Nat → Prop} {w : World} {ns : List (ByteArray × Int)} {sz qu : Int} {ag : ByteArray} {ab : Bool} {yv : Value} (h : RV S w (tG (nE ns)) (.slice none 0 0) yv) : ∀ e ∈ ownQ ns sz qu ag ab yv, RV S w e.t e.x e.y := by
  intro e he
  simp only [ownQ, List.mem_cons, List.not_mem_nil, or_false] at he
  rcases he with rfl | rfl | rfl | rfl
  · exact h
  · exact rv_nI _ _ _ _
  · exact rv_nI _ _ _ _
  · exact rv_sI _ _ _ _
theorem RG.mono {A A' : Nat} {w : World} {v : Value} {es : List PE} (h : RG A w v es) (hA : A ≤ A') : RG A' w v es := by
  obtain ⟨a, c, rfl, hle, h⟩ := h
  refine ⟨a, c, rfl, hle, ?_⟩
  rcases h with h | ⟨g, o, h1, h2, h3⟩
  · exact .inl h
  · exact .inr ⟨g, o, h1, h2, fun i e he => ⟨RV.keep (fun _ h => Nat.lt_of_lt_of_le h hA) (Nat.le_refl _) (fun _ _ _ => rfl) _ _ _ (h3 i e he).1, (h3 i e he).2⟩⟩
theorem RG.rv {A : Nat} {w : World} {v : Value} {es : List PE} (h : RG A w v es) : ∀ e ∈ es, RV (fun b => b < A) w e.t e.x e.y := by
  obtain ⟨a, c, rfl, hle, h⟩ := h
  intro e he
  obtain ⟨i, hi, rfl⟩ := List.getElem_of_mem he
  rcases h with h | ⟨g, o, h1, h2, h3⟩
  · subst h; simp at hi
  · exact (h3 i _ (List.getElem?_eq_getElem hi)).1
theorem numberIf58x (b : Bool) (key : ByteArray) (n : Int) (w : World) : Calls Try.prog 58 #[.bool b, .string key, .int .i64 n] w fun e w' => e = .returned (.agg #[.string key, .int .i64 (nI b n).k, .int .i64 (nI b n).n, .string (nI b n).s, .slice none 0 0, .slice none 0 0]) ∧ Below w.heap.size w w' := numberIf58 b key n w
theorem textIf59x (b : Bool) (key n : ByteArray) (w : World) : Calls Try.prog 59 #[.bool b, .string key, .string n] w fun e w' => e = .returned (.agg #[.string key, .int .i64 (sI b n).k, .int .i64 (sI b n).n, .string (sI b n).s, .slice none 0 0, .slice none 0 0]) ∧ Below w.heap.size w w' := textIf59 b key n w
theorem fin46 {B A da H1 : Nat} {wE wF : World} {v' : Value} {es' : List PE} (hgr : GR B A wE v' es') (hB : H1 < B) (hne : ∀ g l c, v' = .slice (some ⟨g, 0, none⟩) l c → g ≠ da) (hrv : ∀ e ∈ es', RV (fun b => b ≠ da ∧ b ≠ H1) wE e.t e.x e.y) (hb : Besides da wE wF) : RD (fun b => b ≠ H1) wF es'.length (kyG es') (dvG es') v' := by
  have hv : ∀ e ∈ es', RV (fun b => b ≠ H1) wF e.t e.x e.y := fun e he => RV.keep (fun _ h => h.2) hb.size (fun b hb' hl => hb.block b hl hb'.1) _ _ _ (hrv e he)
  have g2 : GR B wF.heap.size wF v' es' := by
    obtain ⟨⟨q1, q2⟩, q3⟩ := hgr
    refine ⟨⟨q1, ?_⟩, fun e he => RV.move (fun b _ hl => hl) (Nat.le_refl _) (fun _ _ _ => rfl) _ _ _ (hv e he)⟩
    rcases q2 with q2 | ⟨gg, cap, cur, e1, e2, e3, e4⟩
    · exact .inl q2
    · exact .inr ⟨gg, cap, cur, e1, e2, (hb.block gg (Array.getElem?_eq_some_iff.1 e3).1 (hne gg _ _ e1)).trans e3, e4⟩
  exact g2.rdS (fun b h => by show b ≠ H1; omega) hv
theorem valid32G (es : List PE) (va : Option Addr) (vc : Nat) (w : World) (hok : (tG es).ok) (h : RD (fun _ => True) w es.length (kyG es) (dvG es) (.slice va es.length vc)) :
    Calls Try.prog 32 #[.agg #[.int .i64 4, .int .i64 0, .string ⟨#[]⟩, .slice none 0 0, .slice va es.length vc]] w fun e w' => e = .returned (.int .i64 (wk (tG es) 0)) ∧ Below w.heap.size w w' :=
  valid12 (tG es) (.slice none 0 0) (.slice va es.length vc) w hok ⟨⟨none, 0, rfl, .inl rfl⟩, h⟩
end Go.Proofs.Ytldkecjfjcnkfaa
