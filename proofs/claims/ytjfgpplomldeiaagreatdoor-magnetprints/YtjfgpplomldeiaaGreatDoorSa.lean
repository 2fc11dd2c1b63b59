import Derived.Test.YtjfgpplomldeiaaGreatDoorRn
import Derived.Lib.Join
namespace Go.Proofs.YtjfgpplomldeiaaGreatDoor
open Go.Shelf Go.RowKit Go.Deep Go.Sort
/-- a parameter of a link: its key and its value -/
abbrev KV := ByteArray × ByteArray
def bs (l : List UInt8) : ByteArray := ⟨l.toArray⟩
theorem bs_tl (l : List UInt8) : (bs l).data.toList = l := by simp [bs]
theorem bs_size (l : List UInt8) : (bs l).size = l.length := by simp [bs, ByteArray.size]
/-- a parameter as it is written -/
def pcT (p : KV) : List UInt8 := esc p.1.data.toList ++ ([61] ++ esc p.2.data.toList)
def txtT (ps : List KV) : List UInt8 := ps.flatMap fun p => [38] ++ pcT p
def scm : List UInt8 := [109, 97, 103, 110, 101, 116, 58, 63]
/-- parameters as they are written -/
def wS : List KV → List UInt8
  | [] => []
  | p :: ps => scm ++ pcT p ++ txtT ps
theorem txtT_app (a b : List KV) : txtT (a ++ b) = txtT a ++ txtT b := by simp [txtT]
theorem wS_one (p : KV) : wS [p] = scm ++ pcT p := by simp [wS, txtT]
theorem wS_app (ps qs : List KV) (h : ps ≠ []) : wS (ps ++ qs) = wS ps ++ txtT qs := by
  cases ps with
  | nil => exact absurd rfl h
  | cons a t => simp [wS, txtT_app]
theorem wS_snoc (ps : List KV) (p : KV) (h : ps ≠ []) : wS (ps ++ [p]) = wS ps ++ ([38] ++ pcT p) := by
  rw [wS_app ps [p] h]; simp [txtT]
theorem sg_pos (x : UInt8) : 1 ≤ (sg x).length := by unfold sg; split <;> simp
theorem esc_ge (l : List UInt8) : l.length ≤ (esc l).length := by
  induction l with
  | nil => simp [esc]
  | cons x l ih =>
    have h1 := sg_pos x
    have e : esc (x :: l) = sg x ++ esc l := rfl
    rw [e, List.length_append, List.length_cons]
    omega
theorem tl_len (s : ByteArray) : s.data.toList.length = s.size := by rw [Array.length_toList]; rfl
theorem pcT_ge (p : KV) : p.1.size ≤ (pcT p).length ∧ p.2.size ≤ (pcT p).length := by
  have h1 := esc_ge p.1.data.toList
  have h2 := esc_ge p.2.data.toList
  rw [tl_len] at h1 h2
  unfold pcT
  simp only [List.length_append, List.length_cons, List.length_nil]
  omega
theorem wS_pre {a b : List KV} (h : a <+: b) : (wS a).length ≤ (wS b).length := by
  obtain ⟨t, rfl⟩ := h
  cases a with
  | nil => simp [wS]
  | cons p ps => rw [wS_app _ _ (by simp)]; simp
theorem wS_last (ps : List KV) (p : KV) : (pcT p).length ≤ (wS (ps ++ [p])).length := by
  cases ps with
  | nil => rw [List.nil_append, wS_one]; simp
  | cons a t => rw [wS_snoc _ _ (by simp)]; simp; omega
theorem wS_big {ps : List KV} {p : KV} (h : 4096 < p.1.size ∨ 4096 < p.2.size) : 4096 < (wS (ps ++ [p])).length := by
  have h1 := wS_last ps p
  have h2 := pcT_ge p
  omega
theorem wS_stop {pre ps : List KV} (h : pre <+: ps) (h2 : 4096 < (wS pre).length) : ¬ (wS ps).length ≤ 4096 := by
  have := wS_pre h
  omega
/-- urn:btmh:1220 -/
def inB : List UInt8 := [117, 114, 110, 58, 98, 116, 109, 104, 58, 49, 50, 50, 48]
def hxL (l : List UInt8) : List Int := Hx2.hexI (l.map fun x => (x.toNat : Int))
def infoV (k : Lk) : ByteArray := bs inB ++ Hx2.strI (hxL k.l)
def rsT (rs : List (Int × Int)) : List UInt8 := Lib.join (rs.map rnT) [44]
/-- the parameters of a link -/
def prm (k : Lk) : List KV :=
  (bs [120, 116], infoV k) :: ((if k.nm.toList == [] then [] else [(bs [100, 110], k.nm)]) ++ ((if k.rs.length = 0 then [] else [(bs [115, 111], bs (rsT k.rs))]) ++
    (k.ts.map (fun t => (bs [116, 114], t)) ++ (k.ps.map (fun t => (bs [120, 46, 112, 101], t)) ++ (List.range k.dn).map fun i => (k.ky i, (k.dv i).s)))))
end Go.Proofs.YtjfgpplomldeiaaGreatDoor
