import Derived.Test.YtglknmelcianjaaRd
import Derived.Deep.MidRow
namespace Go.Proofs.Ytglknmelcianjaa
open Go.RowKit
/-- the zero cells of a sector -/
def zs : Array Value := bc (zr 64) ++ #[.slice none 0 0]
theorem infoS : (Try.prog.info? 59).map (fun i => (i.zero, i.size, i.bytes)) = some (some (.agg zs), 65, 88) := by kernel_rfl
theorem infoW : (Try.prog.info? 62).map (fun i => (i.zero, i.size, i.bytes)) = some (some (.agg (#[.int .i64 0] ++ bc (zr 64))), 65, 72) := by kernel_rfl
theorem sizeS : (Try.prog.info? 59).map (·.size) = some 65 := by kernel_rfl
theorem sizeW : (Try.prog.info? 62).map (·.size) = some 65 := by kernel_rfl
theorem sizeA : (Try.prog.info? 56).map (·.size) = some 64 := by kernel_rfl
theorem zeroS (u : World) : (zeroValue 59).run Try.prog u = .ok (.agg zs) u := by
  obtain ⟨i, hi, hz, _⟩ := info_parts infoS
  simp [zeroValue, typeInfo, hi, hz]
theorem zeroW (u : World) : (zeroValue 62).run Try.prog u = .ok (.agg (#[.int .i64 0] ++ bc (zr 64))) u := by
  obtain ⟨i, hi, hz, _⟩ := info_parts infoW
  simp [zeroValue, typeInfo, hi, hz]
theorem zs_secV : Value.agg zs = secV (zr 64) (.slice none 0 0) := rfl
theorem sc_size (d : List UInt8) (v : Value) (hd : d.length = 64) : (bc d ++ #[v]).size = 65 := by simp [bc_size, hd]
theorem sc_one (d : List UInt8) (v : Value) (hv : v.oneCell' = true) : (bc d ++ #[v]).all (·.oneCell') = true := by
  rw [Array.all_append]
  simp [hv]
  intro i h
  have := Lib.byteCells_one d (bc d)[i] (by rw [← bc_list]; exact Array.getElem_mem_toList _)
  exact this
section
variable {S : Nat → Prop} {w : World} {p lb cap mb : Nat} {ov : Value} {M : DataW Value} {L : Nat → Value} {D : Dk}
theorem DI.one (h : DI S w p lb cap mb ov M L D) (s : Nat) : (L s).oneCell' = true := by
  obtain ⟨a, c, e⟩ := ownsRow_form (h.liv s)
  rw [e]; rfl
theorem underMap : Try.prog.underlying 51 = some (.map 3 59) := by kernel_rfl
theorem DI.look (h : DI S w p lb cap mb ov M L D) (s : Nat) (hs : (s : Int) ≤ 9223372036854775807) :
    (Instr.lookup 51 (.map (some mb)) (.int .i64 s) true).run Try.prog w = .ok (.tuple #[secV ((nw s D.ws).getD (zr 64)) (L s), .bool (nw s D.ws).isSome]) w := by
  obtain ⟨v, ps, hrun, hv⟩ := h.map.look_ok K3 underMap (zeroS w) (zd := .held (.agg zs)) (zp := []) rfl (key3 s hs)
  simp only [idR, Option.some.injEq, Prod.mk.injEq] at hv
  obtain ⟨hv, _⟩ := hv
  rw [hrun]
  cases hn : nw s D.ws with
  | some d =>
    obtain ⟨h1, h2⟩ := h.got s d hn
    rw [h2] at hv
    simp only [DataW.held.injEq] at hv
    rw [hv, h1]
    rfl
  | none =>
    have hh : Maps.has M (ky s) = false := by
      cases hc : Maps.has M (ky s) with
      | false => rfl
      | true =>
        obtain ⟨t, e, ht⟩ := h.key _ hc
        simp only [ky, Lit.int.injEq] at e
        have : s = t := by omega
        subst this
        rw [hn] at ht
        cases ht
    rw [Maps.atKey_of_not_has hh] at hv
    simp only [DataW.held.injEq] at hv
    rw [hv, hh, h.nol s (lv_nil hn 0)]
    rfl
theorem DI.look1 (h : DI S w p lb cap mb ov M L D) (s : Nat) (hs : (s : Int) ≤ 9223372036854775807) :
    (Instr.lookup 51 (.map (some mb)) (.int .i64 s) false).run Try.prog w = .ok (secV ((nw s D.ws).getD (zr 64)) (L s)) w := by
  obtain ⟨v, ps, hrun, hv⟩ := h.map.lookup K3 underMap (zeroS w) (zd := .held (.agg zs)) (zp := []) rfl (key3 s hs)
  simp only [idR, Option.some.injEq, Prod.mk.injEq] at hv
  obtain ⟨hv, _⟩ := hv
  rw [hrun]
  cases hn : nw s D.ws with
  | some d =>
    obtain ⟨h1, h2⟩ := h.got s d hn
    rw [h2] at hv
    simp only [DataW.held.injEq] at hv
    rw [hv]
    rfl
  | none =>
    have hh : Maps.has M (ky s) = false := by
      cases hc : Maps.has M (ky s) with
      | false => rfl
      | true =>
        obtain ⟨t, e, ht⟩ := h.key _ hc
        simp only [ky, Lit.int.injEq] at e
        have : s = t := by omega
        subst this
        rw [hn] at ht
        cases ht
    rw [Maps.atKey_of_not_has hh] at hv
    simp only [DataW.held.injEq] at hv
    rw [hv, h.nol s (lv_nil hn 0)]
    rfl
end
end Go.Proofs.Ytglknmelcianjaa
