import Derived.Test.YtjfgpplomldeiaaGreatDoorSc
import Derived.Test.YtjfgpplomldeiaaGreatDoorMd
namespace Go.Proofs.YtjfgpplomldeiaaGreatDoor
open Go.Shelf Go.RowKit Go.Deep
attribute [local go_sem] Oper.semAt_some
/-- what lies below w0's end stays, and the box of the link -/
def KG (w0 : World) (g : Nat) (W W' : World) : Prop := Below w0.heap.size W W' ∧ W'.heap[g]? = W.heap[g]?
theorem KG.refl (w0 : World) (g : Nat) (W : World) : KG w0 g W W := ⟨Below.refl _ _, rfl⟩
theorem KG.trans {w0 : World} {g : Nat} {A C D : World} (h : KG w0 g A C) (k : KG w0 g C D) : KG w0 g A D := ⟨h.1.trans k.1, k.2.trans h.2⟩
theorem KG.put {w0 : World} {g : Nat} {w : World} (hg : w0.heap.size ≤ w.heap.size) (hgl : g < w.heap.size) (W : World) (l : Nat) (o o' : Obj) (hl : w.heap.size ≤ l) (hh : W.heap[l]? = some o) (_ : o.isCells = false) (_ : o.isWalk = false) : KG w0 g W (W.putObj l o') :=
  ⟨(Below.refl _ _).grown (grownBy_putObj' W l o') (by have := (Array.getElem?_eq_some_iff.1 hh).1; omega) (fun k e => by cases e; omega), World.putObj_heap_other (by omega)⟩
/-- what the iterator stands on -/
def KW (w0 : World) (g : Nat) (k : Lk) (tr pe on mo : Value) (W : World) : Prop := Below w0.heap.size w0 W ∧ LB W g k.l k.nm tr pe on mo
theorem KW.kg {w0 : World} {g : Nat} {k : Lk} {tr pe on mo : Value} {W W' : World} (h : KW w0 g k tr pe on mo W) (hk : KG w0 g W W') : KW w0 g k tr pe on mo W' := ⟨h.1.trans hk.1, h.2.keep hk.2⟩
theorem KW.below {w0 : World} {g : Nat} {k : Lk} {tr pe on mo : Value} {W W' : World} (h : KW w0 g k tr pe on mo W) (hb : Below W.heap.size W W') : KW w0 g k tr pe on mo W' :=
  ⟨h.1.trans (hb.mono h.1.size), h.2.keep (hb.block g h.2.lt)⟩
abbrev kvV (x : KV) : Array Value := #[.string x.1, .string x.2]
def p1 (k : Lk) : List KV := [(bs [120, 116], infoV k)]
def p2 (k : Lk) : List KV := if k.nm.toList == [] then [] else [(bs [100, 110], k.nm)]
def p3 (k : Lk) : List KV := if k.rs.length = 0 then [] else [(bs [115, 111], bs (rsT k.rs))]
def p4 (ts : List ByteArray) : List KV := ts.map fun t => (bs [116, 114], t)
def p5 (ts : List ByteArray) : List KV := ts.map fun t => (bs [120, 46, 112, 101], t)
def p6 (k : Lk) (n : Nat) : List KV := (List.range n).map fun i => (k.ky i, (k.dv i).s)
theorem prm_eq (k : Lk) : prm k = p1 k ++ (p2 k ++ (p3 k ++ (p4 k.ts ++ (p5 k.ps ++ p6 k k.dn)))) := rfl
theorem p4_snoc (ts : List ByteArray) (i : Nat) (x : ByteArray) (h : ts[i]? = some x) : p4 (ts.take (i + 1)) = p4 (ts.take i) ++ [(bs [116, 114], x)] := by
  rw [List.take_add_one, h]; simp [p4]
theorem p5_snoc (ts : List ByteArray) (i : Nat) (x : ByteArray) (h : ts[i]? = some x) : p5 (ts.take (i + 1)) = p5 (ts.take i) ++ [(bs [120, 46, 112, 101], x)] := by
  rw [List.take_add_one, h]; simp [p5]
theorem p6_snoc (k : Lk) (i : Nat) : p6 k (i + 1) = p6 k i ++ [(k.ky i, (k.dv i).s)] := by simp [p6, List.range_succ]
theorem p6_pre (k : Lk) {i n : Nat} (h : i ≤ n) : p6 k i <+: p6 k n := by
  obtain ⟨m, rfl⟩ : ∃ m, n = i + m := ⟨n - i, by omega⟩
  unfold p6
  rw [List.range_add, List.map_append]
  exact List.prefix_append _ _
theorem pre1 (k : Lk) : p1 k <+: prm k := List.prefix_append _ _
theorem pre2 (k : Lk) : p1 k ++ p2 k <+: prm k := by rw [prm_eq, ← List.append_assoc]; exact List.prefix_append _ _
theorem pre3 (k : Lk) : p1 k ++ p2 k ++ p3 k <+: prm k := by rw [prm_eq, ← List.append_assoc, ← List.append_assoc]; exact List.prefix_append _ _
theorem pre4 (k : Lk) (i : Nat) : p1 k ++ p2 k ++ p3 k ++ p4 (k.ts.take i) <+: prm k := by
  rw [prm_eq, ← List.append_assoc, ← List.append_assoc]
  refine List.prefix_append_right_inj _ |>.2 ?_
  refine List.IsPrefix.trans ?_ (List.prefix_append _ _)
  exact List.IsPrefix.map _ (List.take_prefix _ _)
theorem pre5 (k : Lk) (i : Nat) : p1 k ++ p2 k ++ p3 k ++ p4 k.ts ++ p5 (k.ps.take i) <+: prm k := by
  rw [prm_eq, ← List.append_assoc, ← List.append_assoc, ← List.append_assoc]
  refine List.prefix_append_right_inj _ |>.2 ?_
  refine List.IsPrefix.trans ?_ (List.prefix_append _ _)
  exact List.IsPrefix.map _ (List.take_prefix _ _)
theorem pre6 (k : Lk) (i : Nat) (h : i ≤ k.dn) : p1 k ++ p2 k ++ p3 k ++ p4 k.ts ++ p5 k.ps ++ p6 k i <+: prm k := by
  rw [prm_eq, ← List.append_assoc, ← List.append_assoc, ← List.append_assoc, ← List.append_assoc]
  exact List.prefix_append_right_inj _ |>.2 (p6_pre k h)
theorem prm_len (k : Lk) : (prm k).length ≤ 3 + k.ts.length + k.ps.length + k.dn := by
  rw [prm_eq]
  unfold p1 p2 p3 p4 p5 p6
  split <;> split <;> simp <;> omega
theorem pre_lt {k : Lk} {pre : List KV} {x : KV} (h : pre ++ [x] <+: prm k) : pre.length < 3 + k.ts.length + k.ps.length + k.dn + 1 := by
  have h1 := h.length_le
  have h2 := prm_len k
  simp at h1
  omega
theorem reads_link {W : World} {g : Nat} {l : List UInt8} {nm : ByteArray} {tr pe on mo : Value} (h : LB W g l nm tr pe on mo) (hl : l.length = 32) : Hx2.Reads W (.slice (some ⟨g, 0, none⟩) 32 32) (l.map fun x => (x.toNat : Int)) := by
  refine ⟨some ⟨g, 0, none⟩, 32, by rw [List.length_map, hl], .inr ⟨g, 0, rfl, h.lt, fun i hi => ?_⟩⟩
  rw [List.length_map] at hi
  have h1 := h.range i (.int .u8 (l[i].toNat : Int)) (by simp [Lib.byteCells, List.getElem?_eq_getElem hi])
  have hadd : (⟨g, 0, none⟩ : Addr).add i = ⟨g, 0 + i, none⟩ := by unfold Addr.add; split <;> simp_all
  rw [Nat.zero_add] at h1 ⊢
  rw [h1]
  simp [List.getElem?_eq_getElem hi, List.getD]
theorem hex_link {W : World} {g : Nat} {l : List UInt8} {nm : ByteArray} {tr pe on mo : Value} (h : LB W g l nm tr pe on mo) (hl : l.length = 32) :
    Calls Tryz.prog 59 #[.slice (some ⟨g, 0, none⟩) 32 32] W fun e w' => e = .returned (.string (Hx2.strI (hxL l))) ∧ Below W.heap.size W w' :=
  Hx2.hex18 (reads_link h hl) (by simp; omega) (fun x hx => by
    obtain ⟨y, _, rfl⟩ := List.mem_map.1 hx
    have := y.toNat_lt
    omega)
theorem strI_app (a : List Int) (s : ByteArray) : a.foldl (fun r n => r.push (UInt8.ofNat n.toNat)) s = s ++ Hx2.strI a := by
  induction a generalizing s with
  | nil => simp [Hx2.strI]
  | cons x a ih =>
    unfold Hx2.strI
    rw [List.foldl_cons, List.foldl_cons, ih, ih]
    apply ByteArray.ext
    simp [ByteArray.push]
theorem strI_size (a : List Int) : (Hx2.strI a).size = a.length := by
  induction a with
  | nil => rfl
  | cons x a ih =>
    unfold Hx2.strI
    rw [List.foldl_cons, strI_app, ByteArray.size_append, ih]
    simp [ByteArray.push, ByteArray.size]
    omega
theorem hx_size (l : List UInt8) (hl : l.length = 32) : (Hx2.strI (hxL l)).size = 64 := by
  rw [strI_size]
  unfold hxL
  rw [Hx2.hexI_len, List.length_map, hl]
end Go.Proofs.YtjfgpplomldeiaaGreatDoor
