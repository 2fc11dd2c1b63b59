import Derived.Test.YtldkecjfjcnkfaaIo
import Derived.Test.YtldkecjfjcnkfaaWv
namespace Go.Proofs.Ytldkecjfjcnkfaa
open Go.RowKit Go.Deep
/-- a pair as it lies: its key, the tree of its value, the value's two lists -/
structure PE where
  key : ByteArray
  t : T
  x : Value
  y : Value
def PE.no : PE := ⟨⟨#[]⟩, .no, .slice none 0 0, .slice none 0 0⟩
def gC (e : PE) : List Value := .string e.key :: cv e.t e.x e.y
def gCs (es : List PE) : List Value := es.flatMap gC
theorem gC_len (e : PE) : (gC e).length = 6 := rfl
theorem gCs_cons (e : PE) (es : List PE) : gCs (e :: es) = gC e ++ gCs es := by simp [gCs]
theorem gCs_app (a b : List PE) : gCs (a ++ b) = gCs a ++ gCs b := by simp [gCs]
theorem gCs_len (es : List PE) : (gCs es).length = es.length * 6 := by
  induction es with
  | nil => rfl
  | cons e es ih => rw [gCs_cons, List.length_append, ih, gC_len, List.length_cons]; omega
theorem gCs_take (es : List PE) (k : Nat) : (gCs es).take (k * 6) = gCs (es.take k) := by
  by_cases h : k ≤ es.length
  · have e : gCs es = gCs (es.take k) ++ gCs (es.drop k) := by rw [← gCs_app, List.take_append_drop]
    rw [e, List.take_append_of_le_length (by rw [gCs_len, List.length_take]; omega), List.take_of_length_le (by rw [gCs_len, List.length_take]; omega)]
  · rw [List.take_of_length_le (by rw [gCs_len]; omega), List.take_of_length_le (by omega)]
theorem gCs_drop (es : List PE) (k : Nat) : (gCs es).drop (k * 6) = gCs (es.drop k) := by
  by_cases h : k ≤ es.length
  · have e : gCs es = gCs (es.take k) ++ gCs (es.drop k) := by rw [← gCs_app, List.take_append_drop]
    have hl : (gCs (es.take k)).length = k * 6 := by rw [gCs_len, List.length_take]; omega
    rw [e, List.drop_append, hl, List.drop_eq_nil_of_le (by omega), Nat.sub_self, List.nil_append, List.drop_zero]
  · rw [List.drop_eq_nil_of_le (by rw [gCs_len]; omega), List.drop_eq_nil_of_le (by omega)]
    rfl
theorem gCs_get : ∀ (es : List PE) (i : Nat) (e : PE) (r : Nat), r < 6 → es[i]? = some e → (gCs es)[i * 6 + r]? = (gC e)[r]?
  | [], i, e, r, _, h => by simp at h
  | y :: es, 0, e, r, hr, h => by
    simp at h
    subst h
    rw [gCs_cons, List.getElem?_append_left (by rw [gC_len]; omega), Nat.zero_mul, Nat.zero_add]
  | y :: es, i + 1, e, r, hr, h => by
    rw [gCs_cons, List.getElem?_append_right (by rw [gC_len]; omega), gC_len]
    have e1 : (i + 1) * 6 + r - 6 = i * 6 + r := by omega
    rw [e1]
    exact gCs_get es i e r hr (by simpa using h)
def kyG (es : List PE) (i : Nat) : ByteArray := (es.getD i PE.no).key
def dvG (es : List PE) (i : Nat) : T := (es.getD i PE.no).t
theorem getD_of {es : List PE} {i : Nat} {e : PE} (h : es[i]? = some e) : es.getD i PE.no = e := by simp [List.getD, h]
/-- pairs that are read -/
def RG (A : Nat) (w : World) (v : Value) (es : List PE) : Prop :=
  ∃ a c, v = .slice a es.length c ∧ es.length ≤ c ∧ (es = [] ∨ ∃ g o, a = some ⟨g, o, none⟩ ∧ g < w.heap.size ∧ ∀ i e, es[i]? = some e → RV (fun b => b < A) w e.t e.x e.y ∧ ∀ r, r < 6 → w.cell? ⟨g, o + i * 6 + r, none⟩ = (gC e)[r]?)
/-- pairs in a row of the call's own -/
def GR (B A : Nat) (w : World) (v : Value) (es : List PE) : Prop := w.ownsRow B 59 6 v es.length (gCs es) ∧ ∀ e ∈ es, RV (fun b => b < A) w e.t e.x e.y
theorem GR.rd {B A : Nat} {w : World} {v : Value} {es : List PE} (h : GR B A w v es) : RD (fun _ => True) w es.length (kyG es) (dvG es) v := by
  obtain ⟨h, hv⟩ := h
  rcases h.2 with ⟨rfl, h0⟩ | ⟨g, cap, cur, rfl, _, hg, _, _, hsz, hx⟩
  · rw [h0]; exact ⟨none, 0, rfl, .inl rfl⟩
  · refine ⟨_, _, rfl, .inr ⟨g, 0, rfl, trivial, (Array.getElem?_eq_some_iff.1 hg).1, fun i hi => ?_⟩⟩
    obtain ⟨e, he⟩ : ∃ e, es[i]? = some e := ⟨_, List.getElem?_eq_getElem hi⟩
    have hgd := getD_of he
    have c : ∀ r, r < 6 → w.cell? ⟨g, i * 6 + r, none⟩ = (gC e)[r]? := fun r hr => by
      have h2 := gCs_get es i e r hr he
      rw [← hx, List.getElem?_take_of_lt (by omega), Array.getElem?_toList] at h2
      simp only [World.cell?, hg]
      simpa using h2
    have e1 : kyG es i = e.key := by unfold kyG; rw [hgd]
    have e2 : dvG es i = e.t := by unfold dvG; rw [hgd]
    refine ⟨e.x, e.y, ?_, ?_⟩
    · rw [e2]; exact RV.keep (fun _ _ => trivial) (Nat.le_refl _) (fun _ _ _ => rfl) _ _ _ (hv e (List.mem_of_getElem? he))
    · rw [e1, e2]
      simp only [Nat.zero_add]
      exact ⟨c 0 (by omega), c 1 (by omega), c 2 (by omega), c 3 (by omega), c 4 (by omega), c 5 (by omega)⟩
theorem GR.one {B A : Nat} {w : World} {v : Value} {es : List PE} (h : GR B A w v es) : ∀ u ∈ gCs es, u.oneCell' = true := fun u hu => by
  simp only [gCs, List.mem_flatMap] at hu
  obtain ⟨e, he, hu⟩ := hu
  obtain ⟨⟨_, _, _, h1⟩, ⟨_, _, _, h2⟩⟩ := (h.2 e he).slices
  simp [gC, cv] at hu
  rcases hu with rfl | rfl | rfl | rfl | rfl | rfl
  · rfl
  · rfl
  · rfl
  · rfl
  · rw [h1]; rfl
  · rw [h2]; rfl
theorem gC_one {S : Nat → Prop} {w : World} {e : PE} (h : RV S w e.t e.x e.y) : ∀ u ∈ gC e, u.oneCell' = true := fun u hu => by
  obtain ⟨⟨_, _, _, h1⟩, ⟨_, _, _, h2⟩⟩ := h.slices
  simp [gC, cv] at hu
  rcases hu with rfl | rfl | rfl | rfl | rfl | rfl
  · rfl
  · rfl
  · rfl
  · rfl
  · rw [h1]; rfl
  · rw [h2]; rfl
theorem GR.form {B A : Nat} {w : World} {v : Value} {es : List PE} (h : GR B A w v es) : ∃ a c, v = .slice a es.length c := ownForm h.1
theorem GR.keep {B A : Nat} {w w' : World} {v : Value} {es : List PE} (h : GR B A w v es) (hb : Below w.heap.size w w') : GR B A w' v es :=
  ⟨h.1.kept (grown_of_below hb) (by cases hv : v.ownBlock with | none => exact .inl rfl | some q => exact .inr (by simp)), fun e he => RV.keep (fun _ h => h) hb.size (fun b _ hl => hb.block b hl) _ _ _ (h.2 e he)⟩
theorem GR.put {B A n at' : Nat} {w w' : World} {es : List PE} {e : PE} {en : Ending} {v : Value} (h : GR B A w v es) (hAB : A ≤ B) (he : RV (fun b => b < A) w e.t e.x e.y) (hn : n = es.length) (hat : at' ≤ n) (hi : IR B n at' (gCs es) (gC e) w en w') : ∃ v', en = .returned v' ∧ GR B A w' v' (es.take at' ++ e :: es.drop at') ∧ Below B w w' := by
  obtain ⟨v', rfl, h1, h2⟩ := hi
  have rvk : ∀ t x y, RV (fun b => b < A) w t x y → RV (fun b => b < A) w' t x y := fun t x y h => RV.keep (fun _ h => h) h2.size (fun b hb _ => h2.block b (Nat.lt_of_lt_of_le hb hAB)) _ _ _ h
  refine ⟨v', rfl, ⟨?_, fun e' he' => ?_⟩, h2⟩
  · have e1 : gCs (es.take at' ++ e :: es.drop at') = (gCs es).take (at' * 6) ++ gC e ++ (gCs es).drop (at' * 6) := by rw [gCs_app, gCs_cons, gCs_take, gCs_drop, List.append_assoc]
    have e2 : (es.take at' ++ e :: es.drop at').length = n + 1 := by simp; omega
    rw [e1, e2]
    exact h1
  · rcases List.mem_append.1 he' with hm | hm
    · exact rvk _ _ _ (h.2 e' (List.mem_of_mem_take hm))
    · rcases List.mem_cons.1 hm with rfl | hm
      · exact rvk _ _ _ he
      · exact rvk _ _ _ (h.2 e' (List.mem_of_mem_drop hm))
set_option maxHeartbeats 2000000 in
set_option maxRecDepth 100000 in
theorem clone63 (A : Nat) (v : Value) (es : List PE) (w : World) (h : RG A w v es) (hA : A ≤ w.heap.size) (hn : es.length ≤ 2147483647) : Calls Try.prog 63 #[v] w fun e w' => ∃ v', e = .returned v' ∧ GR w.heap.size A w' v' es ∧ Below w.heap.size w w' := by
  have H := Lib.hid h
  obtain ⟨a, c, rfl, hle, hx⟩ := h
  cases a with
  | none =>
    rcases hx with rfl | ⟨g, o, h, _⟩
    · have hq := fun u : World => Lib.run_eql_slice_nil (P := Try.prog) u 33 59 none 0 c 0 0 Try.underlying33
      clear H
      go_enter Try.func63, Try.ntmps63
      go_wp2
      go_ret
      exact ⟨_, rfl, ⟨World.ownsRow_nil _ _ _ _, fun e he => by cases he⟩, Below.refl _ _⟩
    · cases h
  | some ad =>
    obtain ⟨i0, hi, hz0, hz1, hz2⟩ := info_parts info42
    have hq := fun u : World => Lib.run_eql_slice_nil (P := Try.prog) u 33 59 (some ad) es.length c 0 0 Try.underlying33
    have b0 : Below w.heap.size w (w.alloc (.cells #[] 59)) := (Below.refl _ _).alloc (Nat.le_refl _) _
    have HO : Hid ((w.alloc (.cells #[] 59)).ownsRow w.heap.size 59 6 (.slice (some ⟨w.heap.size, 0, none⟩) 0 0) 0 [] ∧ Below w.heap.size w (w.alloc (.cells #[] 59)) ∧ w.heap.size ≤ (w.alloc (.cells #[] 59)).heap.size) :=
      ⟨⟨rfl, .inr ⟨w.heap.size, 0, #[], rfl, Nat.le_refl _, heap_new _ _, Nat.le_refl _, Nat.zero_le _, rfl, rfl⟩⟩, b0, b0.size⟩
    have HC : Hid ((∀ j u, (gCs es)[j]? = some u → (w.alloc (.cells #[] 59)).cell? (ad.add j) = some u) ∧ (∀ u ∈ gCs es, u.oneCell' = true) ∧ ∀ e ∈ es, RV (fun b => b < A) w e.t e.x e.y) := by
      rcases hx with rfl | ⟨g, o, hs, hg, hc⟩
      · exact ⟨fun j u hu => by simp [gCs] at hu, fun u hu => by simp [gCs] at hu, fun e he => by cases he⟩
      · cases hs
        refine ⟨fun j u hu => ?_, fun u hu => ?_, fun e he => ?_⟩
        · have hj := (List.getElem?_eq_some_iff.1 hu).1
          rw [gCs_len] at hj
          obtain ⟨e, he⟩ : ∃ e, es[j / 6]? = some e := ⟨_, List.getElem?_eq_getElem (by omega)⟩
          have h1 := (hc _ e he).2 (j % 6) (by omega)
          have h2 := gCs_get es _ e (j % 6) (by omega) he
          rw [show j / 6 * 6 + j % 6 = j by omega] at h2
          rw [add_none]
          have e9 : (w.alloc (.cells #[] 59)).cell? ⟨g, o + j, none⟩ = w.cell? ⟨g, o + j, none⟩ := World.cell?_of_block (w := w) (b0.block g hg)
          rw [e9, show o + j = o + j / 6 * 6 + j % 6 by omega, h1, ← h2]
          exact hu
        · simp only [gCs, List.mem_flatMap] at hu
          obtain ⟨e, he, hu⟩ := hu
          obtain ⟨i, hi9, rfl⟩ := List.getElem_of_mem he
          exact gC_one (hc i _ (List.getElem?_eq_getElem hi9)).1 u hu
        · obtain ⟨i, hi9, rfl⟩ := List.getElem_of_mem he
          exact (hc i _ (List.getElem?_eq_getElem hi9)).1
    clear hx b0 H
    have hgl := gCs_len es
    go_enter Try.func63, Try.ntmps63
    go_wp2_with (at_builtin; refine wpList_append_own _ rfl _ _ 33 rfl w.heap.size 59 i0 _ 6 96 Try.underlying33 hi hz0 hz1 hz2 rfl (by omega) _ 0 [] rfl HO.out.1 ad es.length c (gCs es) rfl hgl HC.out.1 HC.out.2.1 (by unfold maxLen; omega) (by omega) HO.out.2.2 ?_; intro v' w1 ho1 hg1 _; obtain ⟨a', c', rfl⟩ := ownForm ho1; have hb1 : Below w.heap.size w w1 := HO.out.2.1.grown hg1 HO.out.2.2 (fun k hk => (World.ownsRow.lt HO.out.1 k hk).1))
    go_ret
    rw [Nat.zero_add, List.nil_append] at ho1
    exact ⟨_, rfl, ⟨ho1, fun e he => RV.keep (fun _ h => h) hb1.size (fun b hb _ => hb1.block b (Nat.lt_of_lt_of_le hb hA)) _ _ _ (HC.out.2.2 e he)⟩, hb1⟩
end Go.Proofs.Ytldkecjfjcnkfaa
