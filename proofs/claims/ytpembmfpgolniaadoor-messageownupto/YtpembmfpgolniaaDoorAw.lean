import Derived.Test.YtpembmfpgolniaaDoorWi
import Derived.Test.YtpembmfpgolniaaDoorDl
namespace Go.Proofs.YtpembmfpgolniaaDoor
open Go.RowKit
/-- the message of awake -/
def am : Mv := { zmk 6 with i := 258, b := 64, l := 16384 }
abbrev am40 : Array Value := #[Value.int .i64 6, Value.int .i64 258, Value.int .i64 64, Value.int .i64 16384, Value.slice none 0 0, Value.int .u8 0, Value.int .u8 0, Value.int .u8 0, Value.int .u8 0, Value.int .u8 0, Value.int .u8 0, Value.int .u8 0, Value.int .u8 0, Value.int .u8 0, Value.int .u8 0, Value.int .u8 0, Value.int .u8 0, Value.int .u8 0, Value.int .u8 0, Value.int .u8 0, Value.int .u8 0, Value.int .u8 0, Value.int .u8 0, Value.int .u8 0, Value.int .u8 0, Value.int .u8 0, Value.int .u8 0, Value.int .u8 0, Value.int .u8 0, Value.int .u8 0, Value.int .u8 0, Value.int .u8 0, Value.int .u8 0, Value.int .u8 0, Value.int .u8 0, Value.int .u8 0, Value.int .u8 0, Value.int .i64 0, Value.int .i64 0, Value.slice none 0 0]
abbrev ab13 : List UInt8 := [6, 0, 0, 1, 2, 0, 0, 0, 64, 0, 0, 64, 0]
theorem am_ok : am.ok := ⟨zr_len 32, ⟨_, _, _, rfl⟩, ⟨_, _, _, rfl⟩⟩
theorem am_val : valE am = 0 := by decide
theorem am_enc : encB am [] [] = ab13 := by decide
theorem am_built : Tryd.prog.built 27 [(0, .int .i64 6), (1, .int .i64 258), (2, .int .i64 64), (3, .int .i64 16384)] = some am40 := by kernel_rfl
theorem am_cs : am40 = am.cs := rfl
theorem am_info : (Tryd.prog.info? 27).map (·.size) = some am40.size := by kernel_rfl
theorem am_one : am40.all (·.oneCell') = true := am_ok.one
theorem MM.nil {w : World} {m : Mv} (ok : m.ok) (hd : m.d = .slice none 0 0) (hh : m.h = .slice none 0 0) : MM w m [] [] := ⟨ok, by rw [hd]; exact ⟨none, 0, rfl, Nat.le_refl _, .inl rfl⟩, by rw [hh]; exact ⟨none, 0, 0, rfl, rfl, Nat.le_refl _, .inl rfl⟩, by simp, by simp⟩
/-- the two messages of awake as cells -/
def two80 : Array Value := am40 ++ zk40 (-1)
theorem info_msgP : (Tryd.prog.info? 27).map (fun i => (i.zero, i.size, i.bytes)) = some (some (.agg z40), 40, 128) := by kernel_rfl
theorem fill_two : Instr.fill (fun i => some (i * 40, 40)) ((Array.range (2 * 40)).map ((Value.agg z40).cells[· % (Value.agg z40).cells.size]!)) [(0, .agg am40), (1, .agg (zk40 (-1)))] = some two80 := by kernel_rfl
theorem build_two {ops : Array Oper} {rest : List Oper} {o : Oper} {a : Act} {w : World} {Q : Exit → Act → World → Prop} (hg : o.guard = none) (x y : Operand) (ho : o.op = .buildSlice 33 2 #[(0, x), (1, y)]) (hx : a.eval x = .agg am40) (hy : a.eval y = .agg (zk40 (-1)))
    (h : wpList Tryd.prog ops Q rest (a.put o.dst (.slice (some ⟨w.heap.size, 0, none⟩) 2 2)) (w.alloc (.cells two80 27))) : wpList Tryd.prog ops Q (o :: rest) a w := by
  obtain ⟨i0, hi, hz0, hz1, hz2⟩ := info_parts info_msgP
  refine wpList_buildSlice hg 33 27 2 _ ho two80 i0 _ Tryd.underlying33 hi hz0 (by rw [hz1]; decide) (by rw [hz1]; decide) ?_ h
  rw [hz1]
  have e : (#[(0, x), (1, y)].map fun (i, y) => (i, a.eval y)).toList = [(0, .agg am40), (1, .agg (zk40 (-1)))] := by simp only [List.map_toArray, List.map_cons, List.map_nil, hx, hy]
  rw [e]
  exact fill_two
def twoM : List Mg := [⟨am, [], []⟩, ⟨zmk (-1), [], []⟩]
set_option maxRecDepth 100000 in
theorem two80_eq : two80 = (am.ls ++ (zmk (-1)).ls).toArray := rfl
set_option maxRecDepth 100000 in
theorem rms_two {w : World} {g : Nat} (h : w.heap[g]? = some (.cells two80 27 (0, 0))) : RMS w (.slice (some ⟨g, 0, none⟩) 2 2) twoM := by
  have hr : w.rangeAt g 0 (am.ls ++ (zmk (-1)).ls) := rangeOf (two80_eq ▸ h)
  refine ⟨_, 2, rfl, Nat.le_refl _, .inr ⟨g, 0, rfl, (Array.getElem?_eq_some_iff.1 h).1, fun i x hx => ?_⟩, fun x hx => ?_⟩
  · match i, hx with
    | 0, hx =>
      simp [twoM] at hx
      subst hx
      intro j v hj
      have hlt := (List.getElem?_eq_some_iff.1 hj).1
      exact hr j v (by rw [List.getElem?_append_left hlt]; exact hj)
    | 1, hx =>
      simp [twoM] at hx
      subst hx
      intro j v hj
      have h9 := hr (40 + j) v (by
        rw [List.getElem?_append_right (by show (40 : Nat) ≤ _; omega)]
        show (zmk (-1)).ls[40 + j - 40]? = _
        rw [Nat.add_sub_cancel_left]; exact hj)
      rw [← Nat.add_assoc] at h9
      exact h9
    | n + 2, hx => simp [twoM] at hx
  · simp [twoM] at hx
    rcases hx with rfl | rfl
    · exact MM.nil am_ok rfl rfl
    · exact MM.nil (zmk_ok _) rfl rfl
theorem two_wirE : wirE twoM = 0 := by decide
theorem two_len : (wirB twoM).length = 21 := by decide
end Go.Proofs.YtpembmfpgolniaaDoor
