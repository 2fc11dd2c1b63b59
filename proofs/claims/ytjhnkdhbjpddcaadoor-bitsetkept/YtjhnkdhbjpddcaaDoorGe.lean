import Derived.Test.YtjhnkdhbjpddcaaDoorGd
namespace Go.Proofs.YtjhnkdhbjpddcaaDoor
open Go.RowKit
theorem bf_step (m : Nat) (f : Nat → Bool) : ∀ k, k ≤ m → ∃ o : List UInt8, o.length = (m + 7) / 8 ∧ ∀ i, bit o i = (decide (i < k) && f i)
  | 0, _ => ⟨List.replicate ((m + 7) / 8) 0, by simp, fun i => by rw [bit_zeros]; simp⟩
  | k + 1, hk => by
    obtain ⟨o, h1, h2⟩ := bf_step m f k (by omega)
    cases hf : f k with
    | false =>
      refine ⟨o, h1, fun i => ?_⟩
      rw [h2]
      by_cases hik : i = k
      · subst hik; simp [hf]
      · have : decide (i < k + 1) = decide (i < k) := decide_eq_decide.2 (by omega)
        rw [this]
    | true =>
      refine ⟨o.set (k / 8) (on (byt o (k / 8)) (k % 8)), by rw [List.length_set]; exact h1, fun i => ?_⟩
      rw [bit_set_on o k i (by omega), h2]
      by_cases hik : i = k
      · subst hik; simp [hf]
      · have : decide (i < k + 1) = decide (i < k) := decide_eq_decide.2 (by omega)
        rw [this]; simp [hik]
theorem bf_exists (m : Nat) (f : Nat → Bool) : ∃ o, BF m f o := bf_step m f m (Nat.le_refl _)
/-- what the calls on a bitfield answer -/
structure Cs (m : Nat) (l : List UInt8) (cn : Nat) (zs : List Int) (rr : List (Nat × Nat)) (no : List UInt8) : Prop where
  cnt : ∀ w v, RB w v l → MT w → Calls Tryd.prog 28 #[.int .i64 (m : Int), v] w fun e w' => e = .returned (.tuple #[.int .i64 (cn : Int), .int .i64 0]) ∧ Below w.heap.size w w'
  one : ∀ w v, RB w v l → MT w → Calls Tryd.prog 5 #[.int .i64 (m : Int), v] w fun e w' => ∃ a c, e = .returned (.tuple #[.slice a zs.length c, .int .i64 0]) ∧ OZ w.heap.size w' (.slice a zs.length c) zs ∧ Below w.heap.size w w'
  run : ∀ w v, RB w v l → MT w → Calls Tryd.prog 26 #[.int .i64 (m : Int), v] w fun e w' => ∃ a c, e = .returned (.tuple #[.slice a rr.length c, .int .i64 0]) ∧ OU w.heap.size w' (.slice a rr.length c) rr ∧ Below w.heap.size w w'
  not : ∀ w v, RB w v l → MT w → Calls Tryd.prog 23 #[.int .i64 (m : Int), v] w fun e w' => ∃ a c, e = .returned (.tuple #[.slice a no.length c, .int .i64 0]) ∧ OW w.heap.size w' (.slice a no.length c) no ∧ Below w.heap.size w w'
  cz : cn = zs.length
  lz : zs.length ≤ 65536
  lr : rr.length ≤ 65536
  ln : no.length ≤ 8192
theorem cs_of {m : Nat} {l : List UInt8} (hm : m ≤ 65536) (hck : ck m l = 0) : ∃ cn zs rr no, Cs m l cn zs rr no := by
  obtain ⟨no, hno⟩ := bf_exists m (fun i => !bit l i)
  have hll : l.length ≤ 8192 := by have := (ck_ok hck).2.2.1; simp at this; omega
  have n0 : -9223372036854775808 ≤ (m : Int) := by omega
  have n1 : (m : Int) ≤ 9223372036854775807 := by omega
  refine ⟨(on1 l (8 * l.length)).length, onZ l, (rp (pls (on1 l (8 * l.length)))).1, no, ?_, ?_, ?_, ?_, by simp [onZ], onZ_len l hll, ?_, by have := hno.1; omega⟩
  · exact fun w v hr ht => count23 m n0 n1 v l w hr ht (by omega) hck
  · intro w v hr ht
    refine (ones13 m n0 n1 v l w hr ht (by omega) hck).mono ?_
    rintro e w' ⟨v', rfl, h1, h2⟩
    obtain ⟨a, c, rfl⟩ := h1.form
    exact ⟨a, c, rfl, h1, h2⟩
  · intro w v hr ht
    refine (runs17 m n0 n1 v l w hr ht (by omega) hck).mono ?_
    rintro e w' ⟨v', rfl, h1, h2⟩
    obtain ⟨a, c, rfl⟩ := h1.form
    exact ⟨a, c, rfl, h1, h2⟩
  · intro w v hr ht
    refine (not30 m n0 n1 v l w hr ht (by omega)).mono ?_
    rintro e w' ⟨v', o, rfl, h1, h2, h3⟩
    obtain rfl : o = no := by
      rcases h2 with ⟨h2, _⟩ | ⟨_, h2⟩
      · exact absurd hck h2
      · exact BF.unique h2 hno (fun _ _ => rfl)
    obtain ⟨a, c, rfl⟩ := h1.form
    rw [hck]
    exact ⟨a, c, rfl, h1, h3⟩
  · rw [rp_whole hck]
    have := rs_len l (m : Int).toNat
    rw [Int.toNat_natCast] at this ⊢
    omega
/-- an answer: bytes, numbers or runs -/
inductive Fc where
  | b (v : Value) (l : List UInt8)
  | z (v : Value) (zs : List Int)
  | u (v : Value) (r : List (Nat × Nat))
def Fc.on (B : Nat) (w : World) : Fc → Prop
  | .b v l => OW B w v l
  | .z v zs => OZ B w v zs
  | .u v r => OU B w v r
def Fc.val : Fc → Value
  | .b v _ => v
  | .z v _ => v
  | .u v _ => v
/-- all these answers stand -/
def All (B : Nat) (w : World) (fs : List Fc) : Prop := ∀ f, f ∈ fs → f.on B w
theorem Fc.fr {S : Nat → Prop} {B : Nat} {w w' : World} {f : Fc} (h : f.on B w) (hf : Fr S w w') (hs : ∀ g, f.val.ownBlock = some g → S g) : f.on B w' := by
  cases f with
  | b v l => exact ownsRow_fr (h : OW B w v l) hf hs
  | z v zs => exact ownsRow_fr (h : OZ B w v zs) hf hs
  | u v r => exact ownsRow_fr (h : OU B w v r) hf hs
theorem Fc.base {B B' : Nat} {w : World} {f : Fc} (h : f.on B w) (hb : B' ≤ B) : f.on B' w := by
  cases f with
  | b v l => exact ownsRow_base (h : OW B w v l) hb
  | z v zs => exact ownsRow_base (h : OZ B w v zs) hb
  | u v r => exact ownsRow_base (h : OU B w v r) hb
theorem Fc.blk {B : Nat} {w : World} {f : Fc} (h : f.on B w) : ∀ g, f.val.ownBlock = some g → B ≤ g ∧ g < w.heap.size := by
  cases f with
  | b v l => exact fun g hg => World.ownsRow.lt (h : OW B w v l) g hg
  | z v zs => exact fun g hg => World.ownsRow.lt (h : OZ B w v zs) g hg
  | u v r => exact fun g hg => World.ownsRow.lt (h : OU B w v r) g hg
theorem All.nil (B : Nat) (w : World) : All B w [] := fun f hf => by cases hf
theorem All.keep {B : Nat} {w w' : World} {fs : List Fc} (h : All B w fs) (hb : Below w.heap.size w w') : All B w' fs := fun f hf => Fc.fr (S := fun _ => True) (h f hf) (Fr.of_below hb) (fun _ _ => trivial)
theorem All.add {B : Nat} {w w' : World} {fs : List Fc} (h : All B w fs) (hb : Below w.heap.size w w') (hB : B ≤ w.heap.size) (f : Fc) (hf : f.on w.heap.size w') : All B w' (f :: fs) := fun x hx => by
  rcases List.mem_cons.1 hx with rfl | hx
  · exact Fc.base hf hB
  · exact h.keep hb x hx
theorem All.fr {S : Nat → Prop} {B : Nat} {w w' : World} {fs : List Fc} (h : All B w fs) (hf : Fr S w w') (hs : ∀ g, B ≤ g → S g) : All B w' fs := fun f hx => Fc.fr (h f hx) hf (fun g hg => hs g (Fc.blk (h f hx) g hg).1)
end Go.Proofs.YtjhnkdhbjpddcaaDoor
