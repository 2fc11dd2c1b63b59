import Derived.Test.YtglknmelcianjaaRd2
namespace Go.Proofs.Ytglknmelcianjaa
open Go.RowKit
theorem info3n : (Try.prog.info? 3).map (fun i => (i.zero, i.size, i.bytes)) = some (some (.int .i64 0), 1, 8) := by kernel_rfl
theorem append_n {ops : Array Oper} {rest : List Oper} {o : Oper} {a : Act} {Q : Exit → Act → World → Prop} {w : World} {B : Nat} {sv : Value} {n : Nat} {xs : List Value} (hgd : o.guard = none) (s x : Operand)
    (ho : o.op = .call { callee := .builtin .append, args := #[s, x], argTypes := #[49, 49] }) (hs : a.eval s = sv) (hown : w.ownsRow B 3 1 sv n xs) (b : Nat) (y : Int) (hx : a.eval x = .slice (some ⟨b, 0, none⟩) 1 1)
    (hc : w.cell? ⟨b, 0, none⟩ = some (.int .i64 y)) (hB : B ≤ w.heap.size) (hlim : n ≤ 1073741824)
    (h : ∀ v' w', w'.ownsRow B 3 1 v' (n + 1) (xs ++ [.int .i64 y]) → Below B w w' → wpList Try.prog ops Q rest (a.put o.dst v') w') : wpList Try.prog ops Q (o :: rest) a w := by
  obtain ⟨i0, hi, hz0, hz1, hz2⟩ := info_parts info3n
  refine wpList_append_own w hgd s x 49 ho B 3 i0 _ 1 8 Try.underlying49 hi hz0 hz1 hz2 rfl (by omega) sv n xs hs hown ⟨b, 0, none⟩ 1 1 [.int .i64 y] hx rfl (fun j u hu => ?_) (fun u hu => by simp at hu; subst hu; rfl) (by unfold maxLen; omega) (by omega) hB (fun v' w' h1 h2 _ => h v' w' h1 ((Below.refl B w).grown h2 hB (fun k hk => (World.ownsRow.lt hown k hk).1)))
  have : j = 0 := by
    have := (List.getElem?_eq_some_iff.1 hu).1
    simp at this
    exact this
  subst this
  simp at hu
  subst hu
  rw [Addr.add_mid, Nat.zero_add]
  exact hc
theorem cell1n (w : World) (x : Value) (t : TypeId) : (w.alloc (.cells #[x] t)).cell? ⟨w.heap.size, 0, none⟩ = some x := by
  have := heapNew w (.cells #[x] t)
  simp only [World.cell?, this]
  rfl
section
variable {S : Nat → Prop} {w : World} {q lb cap : Nat} {wv : Value} {ps : List (Wt × Value)} {lf : Int} {D : Dk}
set_option maxHeartbeats 1000000 in
set_option maxRecDepth 100000 in
theorem rpending (h : RI S w q lb cap wv ps lf D) (hn : ps.length ≤ 1073741824) : Calls Try.prog 23 #[.pointer (some ⟨q, 0, none⟩)] w (IntE w D.ws) := by
  have H : Hid (RI S w q lb cap wv ps lf D) := h
  obtain ⟨wa, wc', hwv⟩ := h.wform
  have HWV := Lib.hid hwv
  have HWS := Lib.hid h.ws
  have HLQ := Lib.hid h.lt
  have hc1 : ∀ u, Below w.heap.size w u → u.cell? ⟨q, 1, none⟩ = some (.slice wa ps.length wc') := fun u hu => by
    have := (h.fr (Fr.of_below hu)).c1
    rw [hwv] at this
    exact this
  have HC1 := Lib.hid hc1
  unfold IntE
  generalize hpn : ps.length = n at *
  have HPN := Lib.hid hpn
  clear h hwv hpn hc1
  go_enter Try.func23, Try.ntmps23
  go_wp2_with fail
  go_loopw [3, 4] (fun v t wr => ∃ i : Nat, i ≤ n ∧ t = .int .i64 i ∧ Hid (wr.ownsRow w.heap.size 3 1 v i ((D.ws.take i).map fun x => Value.int .i64 x.at_) ∧ Below w.heap.size w wr)) (fun _ t _ => n - (intOf t).toNat)
  case atStart => exact ⟨0, Nat.zero_le _, rfl, ⟨World.ownsRow_nil _ _ _ _, Below.refl _ _⟩⟩
  case round =>
    obtain ⟨i, hi, rfl, HI⟩ := hrel
    obtain ⟨va, vc, rfl⟩ := ownsRow_form HI.out.1
    have c1 := HC1.out wr HI.out.2
    by_cases hlt : i < n
    · have hip : i < ps.length := by rw [HPN.out]; exact hlt
      obtain ⟨p, hp⟩ : ∃ p, ps[i]? = some p := ⟨_, List.getElem?_eq_getElem hip⟩
      obtain ⟨gw, c, hwv, hrg⟩ := (H.out.fr (Fr.of_below HI.out.2)).at hp
      have hwv2 := HWV.out
      rw [hwv] at hwv2
      simp only [Value.slice.injEq] at hwv2
      obtain ⟨rfl, -, rfl⟩ := hwv2
      obtain ⟨k0, -, -⟩ := rangeC hrg
      have hcl := cell1n wr (.int .i64 (p.1.at_ : Int)) 3
      have b3 : Below wr.heap.size wr (wr.alloc (.cells #[.int .i64 (p.1.at_ : Int)] 3)) := (Below.refl _ _).alloc (Nat.le_refl _) _
      have HO3 : Hid ((wr.alloc (.cells #[.int .i64 (p.1.at_ : Int)] 3)).ownsRow w.heap.size 3 1 (.slice va i vc) i ((D.ws.take i).map fun x => Value.int .i64 x.at_) ∧ w.heap.size ≤ (wr.alloc (.cells #[.int .i64 (p.1.at_ : Int)] 3)).heap.size ∧ Below w.heap.size w (wr.alloc (.cells #[.int .i64 (p.1.at_ : Int)] 3))) := ⟨ownsRow_fr (S := fun _ => True) HI.out.1 (Fr.of_below b3) (fun _ _ => trivial), Nat.le_trans HI.out.2.size b3.size, HI.out.2.trans (b3.mono HI.out.2.size)⟩
      have hws : D.ws[i]? = some p.1 := by rw [HWS.out, List.getElem?_map, hp]; rfl
      have HTk : Hid ((D.ws.take (i + 1)).map (fun x : Wt => Value.int .i64 (x.at_ : Int)) = (D.ws.take i).map (fun x => Value.int .i64 x.at_) ++ [.int .i64 (p.1.at_ : Int)]) := by
        obtain ⟨h1, h2⟩ := List.getElem?_eq_some_iff.1 hws
        show _ = _
        rw [List.take_succ_eq_append_getElem h1, List.map_append, h2]
        rfl
      clear hrg hws b3
      generalize (p.1.at_ : Int) = pat at *
      go_wp2_with (first | (at_builtin; refine append_n rfl _ _ rfl rfl HO3.out.1 wr.heap.size pat rfl hcl HO3.out.2.1 (by omega) ?_; intro v4 w4 o4 b4))
      obtain ⟨a4, c4, rfl⟩ := ownsRow_form o4
      have HN : Hid (w4.ownsRow w.heap.size 3 1 (.slice a4 (i + 1) c4) (i + 1) ((D.ws.take (i + 1)).map fun x => Value.int .i64 x.at_) ∧ Below w.heap.size w w4) := ⟨by rw [HTk.out]; exact o4, HO3.out.2.2.trans b4⟩
      clear o4 b4
      go_wp2
      exact ⟨⟨i + 1, by omega, by go_num, HN⟩, by simp [intOf]; omega⟩
    · have HN : Hid (wr.ownsRow w.heap.size 3 1 (.slice va i vc) D.ws.length (D.ws.map fun x => Value.int .i64 x.at_) ∧ Below w.heap.size w wr) := by
        have h1 := HI.out
        have hl : D.ws.length = i := by rw [HWS.out, List.length_map, HPN.out]; omega
        rw [List.take_of_length_le (by omega)] at h1
        rw [hl]
        exact h1
      have hni : n = i := by omega
      clear HI
      go_wp2
      go_ret
      exact ⟨_, rfl, HN.out.1, HN.out.2⟩
set_option maxHeartbeats 1000000 in
theorem rpending_nil (w : World) : Calls Try.prog 23 #[.pointer none] w fun e w' => e = .returned (.slice none 0 0) ∧ w' = w := by
  go_enter Try.func23, Try.ntmps23
  go_wp2
  go_ret
  exact ⟨rfl, rfl⟩
end
end Go.Proofs.Ytglknmelcianjaa
