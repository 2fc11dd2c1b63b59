import Derived.Test.YtnpcbcfjnhjmmaaGreatDoorV31
import Derived.WalkKit
import Derived.BigQuiet
import Derived.Deep.QuietTactic
import Derived.WalkLawsBesides
import Derived.WalkSpells
import Derived.Laws.BytesString
import Derived.Laws.IdiomStrings
import Derived.Deep.RegionLaw
namespace Go.Proofs.YtnpcbcfjnhjmmaaGreatDoor
namespace Hx2
open Go.RowKit
set_option maxRecDepth 100000
/-- the slice v of bytes reads as the list xs -/
def Reads (w : World) (v : Value) (xs : List Int) : Prop :=
  ∃ a cap, v = .slice a xs.length cap ∧ (xs = [] ∨ ∃ b off, a = some ⟨b, off, none⟩ ∧ b < w.heap.size ∧ ∀ i, i < xs.length → w.cell? ⟨b, off + i, none⟩ = some (.int .u8 (xs.getD i 0)))
theorem Reads.below {w w' : World} {v : Value} {xs : List Int} (h : Reads w v xs) (hb : Below w.heap.size w w') : Reads w' v xs := by
  obtain ⟨a, c, rfl, g⟩ := h
  refine ⟨a, c, rfl, ?_⟩
  rcases g with rfl | ⟨b, o, rfl, hlt, g⟩
  · exact .inl rfl
  · exact .inr ⟨b, o, rfl, Nat.lt_of_lt_of_le hlt hb.size, fun i hi => (hb.cell (p := ⟨b, o + i, none⟩) hlt).trans (g i hi)⟩
theorem Reads.nil (w : World) : Reads w (.slice none 0 0) [] := ⟨none, 0, rfl, .inl rfl⟩
theorem Reads.of_owns {w : World} {base : Nat} {v : Value} {xs : List Int} {n : Nat} (h : w.ownsRow base 5 1 v n (xs.map (Value.int .u8))) : Reads w v xs := by
  have hl := h.1
  simp at hl
  rcases h.2 with ⟨rfl, h0⟩ | ⟨g, cap, cur, rfl, _, hg, _⟩
  · have : xs = [] := List.length_eq_zero_iff.1 (by omega)
    subst this; exact Reads.nil w
  · refine ⟨_, cap, by rw [hl], .inr ⟨g, 0, rfl, (Array.getElem?_eq_some_iff.1 hg).1, fun i hi => ?_⟩⟩
    have := h.cells (g := g) rfl i (.int .u8 (xs.getD i 0)) (by simp [List.getElem?_map, List.getElem?_eq_getElem hi, List.getD])
    have hadd : (⟨g, 0, none⟩ : Addr).add i = ⟨g, i, none⟩ := by unfold Addr.add; split <;> simp_all
    rw [hadd] at this
    simpa using this
/-- the digits' bytes -/
def dgS : ByteArray := { data := #[48, 49, 50, 51, 52, 53, 54, 55, 56, 57, 97, 98, 99, 100, 101, 102] }
def dgI (k : Int) : Int := if k < 10 then 48 + k else 87 + k
def dv (c : Int) : Int := if 48 ≤ c ∧ c ≤ 57 then c - 48 else if 97 ≤ c ∧ c ≤ 102 then c - 87 else -1
theorem dg_index (kd : IntKind) (hk : kd = .i64 ∨ kd = .u8) (k : Int) (h0 : 0 ≤ k) (h1 : k < 16) (w : World) :
    (Instr.index 9 (.string { data := #[48, 49, 50, 51, 52, 53, 54, 55, 56, 57, 97, 98, 99, 100, 101, 102] }) (.int kd k)).run Tryz.prog w = .ok (.int .u8 (dgI k)) w := by
  have : k = 0 ∨ k = 1 ∨ k = 2 ∨ k = 3 ∨ k = 4 ∨ k = 5 ∨ k = 6 ∨ k = 7 ∨ k = 8 ∨ k = 9 ∨ k = 10 ∨ k = 11 ∨ k = 12 ∨ k = 13 ∨ k = 14 ∨ k = 15 := by omega
  rcases hk with rfl | rfl <;> (rcases this with rfl | rfl | rfl | rfl | rfl | rfl | rfl | rfl | rfl | rfl | rfl | rfl | rfl | rfl | rfl | rfl <;> rfl)
theorem ret_i' {a b : Int} (h : a = b) : Ending.returned (.int .i64 a) = .returned (.int .i64 b) := by rw [h]
def vl (c : Int) : Int := if dv c < 0 then 16 else dv c
theorem vl_of {c k : Int} (h0 : 0 ≤ k) (h1 : k < 16) (h : dgI k = c) : k = vl c := by
  subst h; unfold vl dv dgI; split <;> split <;> omega
theorem vl_no {c : Int} (h : ∀ j : Nat, j < 16 → dgI j ≠ c) : 16 = vl c := by
  unfold vl
  have : dv c = -1 := by
    unfold dv
    rw [if_neg, if_neg]
    · rintro ⟨a, b⟩
      exact h (c - 87).toNat (by omega) (by unfold dgI; split <;> omega)
    · rintro ⟨a, b⟩
      exact h (c - 48).toNat (by omega) (by unfold dgI; split <;> omega)
  rw [this]; rfl
theorem infoB : (Tryz.prog.info? 5).map (fun i => (i.zero, i.size, i.bytes)) = some (some (.int .u8 0), 1, 1) := by kernel_rfl
def strI (ns : List Int) : ByteArray := ns.foldl (fun r n => r.push (UInt8.ofNat n.toNat)) ByteArray.empty
theorem conv_reads {w : World} {v : Value} {xs : List Int} (h : Reads w v xs) : (convert 92 9 v).run Tryz.prog w = .ok (.string (strI xs)) w := by
  obtain ⟨a, cap, rfl, h⟩ := h
  rw [run_convert_bytes_string w 92 9 5 a _ cap Tryz.underlying92 Tryz.underlying5 Tryz.underlying9]
  cases a with
  | none =>
    rcases h with rfl | ⟨b, o, h, _⟩
    · rfl
    · cases h
  | some a =>
    refine run_bytesToString w a xs.length cap xs ?_
    have hl := run_loadCells_list (P := Tryz.prog) w a (xs.map (Value.int .u8)) (fun j v hj => by
      have hj' : j < xs.length := by
        have := (List.getElem?_eq_some_iff.1 hj).1
        simpa using this
      rcases h with rfl | ⟨b, o, h, _, hc⟩
      · simp at hj'
      · simp only [Option.some.injEq] at h
        subst h
        have hadd : (⟨b, o, none⟩ : Addr).add j = ⟨b, o + j, none⟩ := by unfold Addr.add; split <;> simp_all
        rw [hadd, hc j hj']
        simp [List.getElem?_eq_getElem hj'] at hj
        rw [← hj]
        simp [List.getD, List.getElem?_eq_getElem hj'])
    simpa using hl
theorem ownForm {w : World} {base e n : Nat} {v : Value} {xs : List Value} (h : w.ownsRow base e 1 v n xs) : ∃ a cap, v = .slice a n cap := by
  rcases h.2 with ⟨rfl, rfl⟩ | ⟨g, cap, _, rfl, _⟩
  · exact ⟨none, 0, rfl⟩
  · exact ⟨_, cap, rfl⟩
theorem belowApp {w wr w1 : World} {o : Obj} {v : Value} {n e : Nat} {xs : List Value} (hb : Below w.heap.size w wr) (hown : wr.ownsRow w.heap.size e 1 v n xs) (hg : (wr.alloc o).grownBy w1 v.ownBlock) : Below w.heap.size w w1 :=
  (hb.alloc hb.size o).grown hg (by have := hb.size; simp; omega) (fun k hk => (hown.lt k hk).1)
theorem take_snocI (xs : List Int) (k : Nat) (h : k < xs.length) : xs.take (k + 1) = xs.take k ++ [xs.getD k 0] := by
  rw [List.take_succ_eq_append_getElem h]; simp [List.getD, List.getElem?_eq_getElem h]
/-- two digits a byte -/
def hexI (xs : List Int) : List Int := xs.flatMap fun x => [dgI (x / 16), dgI (x % 16)]
theorem hexI_len (xs : List Int) : (hexI xs).length = 2 * xs.length := by
  induction xs with
  | nil => rfl
  | cons x xs ih => simp [hexI] at ih ⊢; omega
theorem hexI_snoc (xs : List Int) (k : Nat) (h : k < xs.length) : hexI (xs.take (k + 1)) = hexI (xs.take k) ++ [dgI (xs.getD k 0 / 16), dgI (xs.getD k 0 % 16)] := by
  rw [take_snocI xs k h]; simp [hexI]
theorem and15_0 : ∀ n : Fin 256, bits .and .u8 (n.val : Int) 15 = (n.val : Int) % 16 := by decide +kernel
theorem and15 {x : Int} (h0 : 0 ≤ x) (h1 : x ≤ 255) : bits .and .u8 x 15 = x % 16 := by
  have := and15_0 ⟨x.toNat, by omega⟩
  simpa [Int.toNat_of_nonneg h0] using this
theorem belowApp2 {w wr w1 : World} {v : Value} {n e : Nat} {xs : List Value} (hb : Below w.heap.size w wr) (hown : wr.ownsRow w.heap.size e 1 v n xs) (hg : wr.grownBy w1 v.ownBlock) : Below w.heap.size w w1 :=
  hb.grown hg hb.size (fun k hk => (hown.lt k hk).1)
theorem step_append_own {P : Program} {ops : Array Oper} {o : Oper} {a : Act} {w : World} {K : Act → World → Prop} {Q : Exit → Act → World → Prop} {E : Prop}
    (hg : o.guard = none) (s x : Operand) (t : TypeId) (hop : o.op = Op.call { callee := Callee.builtin Builtin.append, args := #[s, x], argTypes := #[t, t] })
    (base : Nat) (e : TypeId) (i : TypeInfo) (z : Value) (size bytes : Nat) (ht : P.underlying t = some (.slice e)) (hi : P.info? e = some i) (hz : i.zero = some z)
    (hsize : i.size = size) (hby : i.bytes = bytes) (hzs : z.cells.size = size) (hsz : 0 < size)
    (v : Value) (n : Nat) (xs : List Value) (hs : a.eval s = v) (hown : w.ownsRow base e size v n xs)
    (ad : Addr) (m c : Nat) (news : List Value) (hx : a.eval x = .slice (some ad) m c) (hl : news.length = m * size) (hnews : ∀ j u, news[j]? = some u → w.cell? (ad.add j) = some u) (h1 : ∀ u ∈ news, u.oneCell' = true)
    (h63 : n + m ≤ maxLen) (hbytes : (n + m) * bytes ≤ 140737488355328) (hbase : base ≤ w.heap.size)
    (h : ∀ v' w', w'.ownsRow base e size v' (n + m) (xs ++ news) → w.grownBy w' v.ownBlock → K (a.put o.dst v') w') :
    if Region.wanted o (yielded ops a.tmps) = true then Oper.wp P o a w K Q else E := by
  have hw : Region.wanted o (yielded ops a.tmps) = true := by simp [Region.wanted, hg]
  rw [if_pos hw]
  exact wp_append_own w s x t hop base e i z size bytes ht hi hz hsize hby hzs hsz v n xs hs hown ad m c news hx hl hnews h1 h63 hbytes hbase fun v' w' h2 h3 _ => h v' w' h2 h3
theorem cell_two (w : World) (x y : Value) (e : TypeId) : ∀ j u, ([x, y] : List Value)[j]? = some u → (w.alloc (.cells #[x, y] e)).cell? ((⟨w.heap.size, 0, none⟩ : Addr).add j) = some u := by
  intro j u h
  match j, h with
  | 0, h => simp at h; subst h; simp [Addr.add]
  | 1, h => simp at h; subst h; simp [Addr.add]
set_option maxHeartbeats 800000 in
theorem hex18 {w : World} {v : Value} {xs : List Int} (h : Reads w v xs) (hl : xs.length ≤ 1048576) (hb8 : ∀ x ∈ xs, 0 ≤ x ∧ x ≤ 255) :
    Calls Tryz.prog 75 #[v] w fun e w' => e = .returned (.string (strI (hexI xs))) ∧ Below w.heap.size w w' := by
  obtain ⟨i0, hi, hz0, hz1, hz2⟩ := info_parts infoB
  obtain ⟨a, cap, rfl, h⟩ := h
  have hmk : ∀ u : World, (Instr.makeSlice 92 (.int .i64 0) (.int .i64 (2 * (xs.length : Int)))).run Tryz.prog u =
      .ok (.slice (some ⟨u.heap.size, 0, none⟩) 0 (2 * xs.length)) (u.alloc (.cells (madeCells #[.int .u8 0] (2 * xs.length)) 5)) := fun u => by
    have h := run_make (P := Tryz.prog) u 92 5 i0 (.int .u8 0) Tryz.underlying92 hi hz0 .i64 .i64 0 (2 * (xs.length : Int)) (by omega) (by omega) (by rw [hz2]; omega) (by omega)
    have e : (2 * (xs.length : Int)).toNat = 2 * xs.length := by omega
    rw [e] at h
    simpa [hz1, Value.cells] using h
  have HR : Hid (xs = [] ∨ ∃ b off, a = some ⟨b, off, none⟩ ∧ b < w.heap.size ∧ ∀ i, i < xs.length → w.cell? ⟨b, off + i, none⟩ = some (.int .u8 (xs.getD i 0))) := h
  have HB : Hid (∀ x ∈ xs, 0 ≤ x ∧ x ≤ 255) := hb8
  clear h hb8
  go_enter Tryz.func75, Tryz.ntmps75
  go_wp2
  go_loopw [3, 12] (fun v t wr => ∃ (k : Nat) (a : Option Addr) (cp : Nat), k ≤ xs.length ∧ t = .int .i64 k ∧ v = .slice a (2 * k) cp ∧ wr.ownsRow w.heap.size 5 1 v (2 * k) ((hexI (xs.take k)).map (Value.int .u8)) ∧ Below w.heap.size w wr) (fun _ t _ => xs.length - (intOf t).toNat)
  case atStart => exact ⟨0, _, _, Nat.zero_le _, rfl, rfl, World.ownsRow_made w _ (2 * xs.length) (Nat.le_refl _) (by unfold maxLen; omega) (by simp [size_madeCells]), (Below.refl _ _).alloc (Nat.le_refl _) _⟩
  case round =>
    obtain ⟨k, a2, cp, hk, rfl, rfl, hown, hbel⟩ := hrel
    clear hmk
    by_cases hlt : k < xs.length
    · rcases HR.out with hnil | ⟨b, off, rfl, hb, hc⟩
      · rw [hnil] at hlt; simp at hlt
      · have hck : wr.cell? ⟨b, off + k, none⟩ = some (.int .u8 (xs.getD k 0)) := (hbel.cell (p := ⟨b, off + k, none⟩) hb).trans (hc k hlt)
        have HT : Hid (hexI (xs.take (k + 1)) = hexI (xs.take k) ++ [dgI (xs.getD k 0 / 16), dgI (xs.getD k 0 % 16)]) := hexI_snoc xs k hlt
        have hy : 0 ≤ xs.getD k 0 ∧ xs.getD k 0 ≤ 255 := by
          have := HB.out xs[k] (List.getElem_mem hlt)
          simpa [List.getD, List.getElem?_eq_getElem hlt] using this
        clear hc HR HB
        generalize xs.getD k 0 = y at *
        obtain ⟨hy0, hy1⟩ := hy
        have hx1 := dg_index .u8 (.inr rfl) (y / 16) (by omega) (by omega)
        have hx2 : ∀ w, (Instr.index 9 (.string { data := #[48, 49, 50, 51, 52, 53, 54, 55, 56, 57, 97, 98, 99, 100, 101, 102] }) (.int .u8 (bits .and .u8 y 15))).run Tryz.prog w = .ok (.int .u8 (dgI (y % 16))) w := fun w => by
          rw [and15 hy0 hy1]; exact dg_index .u8 (.inr rfl) (y % 16) (by omega) (by omega) w
        go_wp2
        go_region_law (refine step_append_own rfl (.tmp 16) (.tmp 23) 92 rfl w.heap.size 5 i0 (.int .u8 0) 1 1 Tryz.underlying92 hi hz0 hz1 hz2 rfl (by decide) (.slice a2 (2 * k) cp) (2 * k) _ (by simp [Act.eval]) (by exact (hown.drew.alloc _)) ⟨wr.heap.size, 0, none⟩ 2 2 [.int .u8 (dgI (y / 16)), .int .u8 (dgI (y % 16))] (by simp [Act.eval]) rfl (by exact cell_two wr _ _ _) (fun u hu => by simp at hu; rcases hu with rfl | rfl <;> rfl) (by unfold maxLen; omega) (by omega) (by have := hbel.size; simp; omega) ?_; intro v' w1 hown' hgrow)
        all_goals
          obtain ⟨a', cap', rfl⟩ := ownForm hown'
          have hbel' := belowApp2 (hbel.drew.alloc hbel.size _) (hown.drew.alloc _) hgrow
          clear hown hgrow hbel
          go_wp2
          go_roundw
          case rel => exact ⟨k + 1, a', cap', by omega, by go_num, by rw [show 2 * (k + 1) = 2 * k + 2 by omega], by rw [HT.out, show 2 * (k + 1) = 2 * k + 2 by omega]; simpa using hown', hbel'⟩
          case measure => simp [intOf]; omega
    · have hkl : k = xs.length := by omega
      subst hkl
      have hcv := conv_reads (Reads.of_owns (xs := hexI xs) (by simpa using hown))
      go_wp2
      go_ret
      exact ⟨rfl, hbel⟩
end Hx2
end Go.Proofs.YtnpcbcfjnhjmmaaGreatDoor
