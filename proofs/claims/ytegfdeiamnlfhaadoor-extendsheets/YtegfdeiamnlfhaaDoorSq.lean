import Derived.Test.YtegfdeiamnlfhaaDoorSp
import Derived.Laws.ResultCell
namespace Go.Proofs.YtegfdeiamnlfhaaDoor
open Go.RowKit Go.Deep
theorem blk_set {w : World} {b : Nat} {cs : Array Value} {ty : TypeId} (h : w.heap[b]? = some (.cells cs ty (0, 0))) (i : Nat) (u : Value) : (w.setCell ⟨b, i, none⟩ u).heap[b]? = some (.cells (cs.setIfInBounds i u) ty (0, 0)) := by
  rw [setCell_eq_setRow w b i _ _ _ _ h, setRow_heap w b _ _ _ _ h]
theorem info42s : (Tryd.prog.info? 42).map (·.size) = some 6 := by kernel_rfl
theorem info35s : (Tryd.prog.info? 35).map (·.size) = some 5 := by kernel_rfl
/-- a pair, told or not -/
def oC (x : Bool × ByteArray × Int) : List Value := if x.1 then pC x.2 else [.string x.2.1, .int .i64 0, .int .i64 0, .string ⟨#[]⟩, .slice none 0 0, .slice none 0 0]
set_option maxHeartbeats 1000000 in
theorem numberIf16 (b : Bool) (key : ByteArray) (n : Int) (w : World) : Calls Tryd.prog 16 #[.bool b, .string key, .int .i64 n] w fun e w' => e = .returned (.agg (oC (b, key, n)).toArray) ∧ Below w.heap.size w w' := by
  have HW : Hid (∀ o, Below w.heap.size w (w.alloc o)) := fun _ => (Below.refl _ _).alloc (Nat.le_refl _) _
  cases b with
  | false =>
    go_enter Tryd.func16, Tryd.ntmps16
    go_wp2
    exact bodyPost_ret (v := .agg #[.string key, .int .i64 0, .int .i64 0, .string ⟨#[]⟩, .slice none 0 0, .slice none 0 0]) (results_cell_row Tryd.results16 _ _ w.heap.size 42 _ (0, 0) _ rfl (heap_new _ _) Tryd.underlying42 rfl info42s) rfl ⟨rfl, HW.out _⟩
  | true =>
    go_enter Tryd.func16, Tryd.ntmps16
    go_wp2
    exact bodyPost_ret (v := .agg #[.string key, .int .i64 1, .int .i64 n, .string ⟨#[]⟩, .slice none 0 0, .slice none 0 0]) (results_cell_row Tryd.results16 _ _ w.heap.size 42 _ (0, 0) _ rfl (heap_new _ _) Tryd.underlying42 rfl info42s) rfl ⟨rfl, HW.out _⟩
set_option maxHeartbeats 1000000 in
theorem isTold24 (x : Bool × ByteArray × Int) (w : World) : Calls Tryd.prog 24 #[.agg (oC x).toArray] w fun e w' => e = .returned (.bool x.1) ∧ Below w.heap.size w w' := by
  obtain ⟨b, key, n⟩ := x
  cases b with
  | false =>
    show Calls Tryd.prog 24 #[.agg #[.string key, .int .i64 0, .int .i64 0, .string ⟨#[]⟩, .slice none 0 0, .slice none 0 0]] w _
    go_enter Tryd.func24, Tryd.ntmps24
    go_wp2
    go_ret
    exact ⟨rfl, (Below.refl _ _).alloc (Nat.le_refl _) _⟩
  | true =>
    show Calls Tryd.prog 24 #[.agg #[.string key, .int .i64 1, .int .i64 n, .string ⟨#[]⟩, .slice none 0 0, .slice none 0 0]] w _
    go_enter Tryd.func24, Tryd.ntmps24
    go_wp2
    go_ret
    exact ⟨rfl, (Below.refl _ _).alloc (Nat.le_refl _) _⟩
set_option maxHeartbeats 1000000 in
theorem clone23 (w : World) : Calls Tryd.prog 23 #[.slice none 0 0] w fun e w' => e = .returned (.slice none 0 0) ∧ w' = w := by
  have hq := fun u : World => Lib.run_eql_slice_nil (P := Tryd.prog) u 33 42 none 0 0 0 0 Tryd.underlying33
  go_enter Tryd.func23, Tryd.ntmps23
  go_wp2
  go_ret
  exact ⟨rfl, rfl⟩
set_option maxHeartbeats 1000000 in
theorem insert26 (B : Nat) (v : Value) (ps : List (ByteArray × Int)) (y : ByteArray × Int) (b : Nat) (w : World) (h : NR B w v ps) (hb : w.heap[b]? = some (.cells (pC y).toArray 42 (0, 0))) (hB : B ≤ w.heap.size) (hlim : ps.length < 1000000) :
    Calls Tryd.prog 26 #[v, .int .i64 ps.length, .slice (some ⟨b, 0, none⟩) 1 1] w fun e w' => ∃ v', e = .returned v' ∧ NR B w' v' (ps ++ [y]) ∧ Below B w w' := by
  have HN : Hid (NR B w v ps ∧ w.heap[b]? = some (.cells (pC y).toArray 42 (0, 0)) ∧ B ≤ w.heap.size ∧ ps.length < 1000000) := ⟨h, hb, hB, hlim⟩
  have hc : ∀ a c, v = .slice a ps.length c → ps.length ≤ c := fun a c e => by
    rcases h.2 with ⟨rfl, h0⟩ | ⟨g, cap, cur, rfl, _, hg, hle, _⟩
    · simp at e; omega
    · simp at e; omega
  obtain ⟨a, c, rfl⟩ := h.form
  have hc' := hc a c rfl
  have hpy : (ps ++ [y]).length = ps.length + 1 := by simp
  clear h hb hB hc
  generalize hnn : ps.length = n at *
  go_enter Tryd.func26, Tryd.ntmps26
  cases a with
  | none =>
    go_wp2_with (at_builtin; refine append_pair rfl _ _ rfl rfl HN.out.1 b y rfl HN.out.2.1 HN.out.2.2.1 (by rw [hnn]; exact HN.out.2.2.2) ?_; intro v' w1 ho1 hb1; obtain ⟨a', c', rfl⟩ := ho1.form; rw [hpy] at ho1)
    all_goals
      go_ret
      exact ⟨_, rfl, ho1, hb1⟩
  | some ad =>
    go_wp2_with (at_builtin; refine append_pair rfl _ _ rfl rfl HN.out.1 b y rfl HN.out.2.1 HN.out.2.2.1 (by rw [hnn]; exact HN.out.2.2.2) ?_; intro v' w1 ho1 hb1; obtain ⟨a', c', rfl⟩ := ho1.form; rw [hpy] at ho1)
    all_goals
      go_ret
      exact ⟨_, rfl, ho1, hb1⟩
end Go.Proofs.YtegfdeiamnlfhaaDoor
