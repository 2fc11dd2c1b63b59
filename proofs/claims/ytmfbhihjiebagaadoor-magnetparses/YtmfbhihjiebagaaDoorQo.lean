import Derived.Test.YtmfbhihjiebagaaDoorQn
import Derived.Test.YtmfbhihjiebagaaDoorMl
import Derived.LaidMore
import Derived.Lib.LaidTab
import Derived.Lib.AppendIntMem
import Derived.LaidLaws
import Derived.Stop.LaidErr
import Derived.Stop.Joined
namespace Go.Proofs.YtmfbhihjiebagaaDoor
open Go.ChangeShapes Go.WideShapes Go.ChangeAt Go.RowKit Go.Shelf
theorem star_es : "*" ++ "errors.errorString" = "*errors.errorString" := by decide
theorem row132 (u : TypeId) (h : Tryd.prog.typeName? 3 u = some "*errors.errorString") : u = 132 :=
  typeName_ptr_named (nm := "errors.errorString") (by rw [star_es]; kernel_rfl) (by kernel_rfl) (by decide) u (by rw [star_es]; exact h)
set_option maxRecDepth 100000 in
theorem tg_of_laid {W : World} {r : List (String × DataW Unit)} (h : laidMet Tryd.prog (("math/bits.deBruijn32tab", Rows.laid_math_bits_deBruijn32tab) :: ("math/bits.deBruijn64tab", Rows.laid_math_bits_deBruijn64tab) :: ("internal/strconv.uint64pow10", Rows.laid_internal_strconv_uint64pow10) :: ("strconv.ErrRange", Rows.laid_strconv_ErrRange) :: ("strconv.ErrSyntax", Rows.laid_strconv_ErrSyntax) :: r) W) : TG W := by
  have h2 := laidMet.tail (laidMet.tail h)
  have h3 := laidMet.tail h2
  have gR : Tryd.prog.globalNamed "strconv.ErrRange" = some 3 := by kernel_rfl
  have gS : Tryd.prog.globalNamed "strconv.ErrSyntax" = some 2 := by kernel_rfl
  have u77 : Tryd.prog.underlying 77 = some (.interface #[("Error", 79)]) := by kernel_rfl
  have u132 : Tryd.prog.underlying 132 = some (.pointer 134) := by kernel_rfl
  obtain ⟨a0, s0, hv0, _, _, _⟩ := laid_sentinel h3 gR (by kernel_rfl) u77 row132 u132 (f := (match Tryd.prog.underlying 134 with | some (.struct fs) => fs.getD 0 default | _ => default)) (by kernel_rfl) (by kernel_rfl) (by kernel_rfl) (ts := 9) (by kernel_rfl) (by kernel_rfl) (by kernel_rfl)
  obtain ⟨a1, s1, hv1, _, _, _⟩ := laid_sentinel (laidMet.tail h3) gS (by kernel_rfl) u77 row132 u132 (f := (match Tryd.prog.underlying 134 with | some (.struct fs) => fs.getD 0 default | _ => default)) (by kernel_rfl) (by kernel_rfl) (by kernel_rfl) (ts := 9) (by kernel_rfl) (by kernel_rfl) (by kernel_rfl)
  have e15 : laysAtoi_ren.g 15 = 2 := by kernel_rfl
  have e16 : laysAtoi_ren.g 16 = 3 := by kernel_rfl
  refine ⟨Lib.tabBelow_of_tabIs (Lib.tabIs_of_head (g := 4) (t := 136) (e := 119) (n := 20) (by kernel_rfl) (by kernel_rfl) (by kernel_rfl) (by kernel_rfl) (by kernel_rfl) (by kernel_rfl) h2), ⟨_, by rw [e15]; simpa using World.var?_cell gS hv1 0, .inr ⟨_, _, rfl⟩⟩, ⟨_, by rw [e16]; simpa using World.var?_cell gR hv0 0, .inr ⟨_, _, rfl⟩⟩⟩
end Go.Proofs.YtmfbhihjiebagaaDoor
