/-
  What the listed variables of md5 and strconv give the walks of texts.
-/
import Derived.Test.YtpdmopfnllfomaaDoorLaidM
import Derived.Test.YtpdmopfnllfomaaDoorMdParse
namespace Go.Proofs.YtpdmopfnllfomaaDoor
open Go.RowKit
set_option maxRecDepth 100000
theorem star_err : "*" ++ "errors.errorString" = "*errors.errorString" := by decide
theorem row_err (u : TypeId) (h : Tryd.prog.typeName? 3 u = some "*errors.errorString") : u = 106 :=
  typeName_ptr_named (nm := "errors.errorString") (by rw [star_err]; kernel_rfl) (by kernel_rfl) (by decide) u (by rw [star_err]; exact h)
theorem of_laidT {W : World} (h : laidMetH Tryd.prog [("math/bits.deBruijn32tab", Rows.laid_math_bits_deBruijn32tab), ("math/bits.deBruijn64tab", Rows.laid_math_bits_deBruijn64tab), ("internal/strconv.uint64pow10", Rows.laid_internal_strconv_uint64pow10), ("strconv.ErrRange", Rows.laid_strconv_ErrRange), ("strconv.ErrSyntax", Rows.laid_strconv_ErrSyntax), ("tether/md5.addends", Rows.laid_tether_md5_addends), ("tether/md5.turns", Rows.laid_tether_md5_turns)] W) : (TabK W ∧ TabS W) ∧ TabE W := by
  have h0 := h
  rw [MakeChecks.laidMetH_plain _ _ _ (by kernel_rfl)] at h
  have h5 := laidMet.tail (laidMet.tail (laidMet.tail (laidMet.tail h)))
  have h6 := laidMet.tail h5
  refine ⟨of_laidM (by rw [MakeChecks.laidMetH_plain _ _ _ (by kernel_rfl)]; exact h6), ?_⟩
  obtain ⟨a0, s0, hv0, -, -, -⟩ := laid_sentinel (n := "strconv.ErrSyntax") (g := 2) (ti := 67) (tp := 106) (te := 108) (ts := 9) h5 (by kernel_rfl) (by kernel_rfl) Tryd.underlying67 row_err Tryd.underlying106 Tryd.underlying108 rfl rfl Tryd.underlying9 (by kernel_rfl) (by kernel_rfl)
  have h1 := World.var?_cell (show Tryd.prog.globalNamed "strconv.ErrSyntax" = some 2 by kernel_rfl) hv0 0
  exact ⟨_, _, by simpa using h1⟩
end Go.Proofs.YtpdmopfnllfomaaDoor
