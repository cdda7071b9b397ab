/-
  What the listed tables give the walks.
-/
import Derived.Test.YtdnheiefbecaeaaDoorRows
import Derived.Test.YtdnheiefbecaeaaDoorNext16
import Derived.Test.YtdnheiefbecaeaaDoorNext32
import Derived.Lib.LaidTab
import Derived.Stop.LaidErr
import Derived.MakeChecks
import Derived.LaidMore
namespace Go.Proofs.YtdnheiefbecaeaaDoor
theorem of_laid {W : World} (h : laidMetH Tryd.prog [("tether/fcs.half16", Rows.laid_tether_fcs_half16), ("tether/fcs.half32", Rows.laid_tether_fcs_half32)] W) : Tab16 W ∧ Tab32 W := by
  rw [MakeChecks.laidMetH_plain _ _ _ (by kernel_rfl)] at h
  have g1 : Tryd.prog.globalNamed "tether/fcs.half16" = some 1 := by kernel_rfl
  have g2 : Tryd.prog.globalNamed "tether/fcs.half32" = some 2 := by kernel_rfl
  have t1 : Lib.TabIs Tryd.prog W "tether/fcs.half16" .u16 L16 := Lib.tabIs_of_head g1 (t := 121) (by kernel_rfl) Tryd.underlying121 Tryd.underlying37 (by kernel_rfl) (by kernel_rfl) h
  have t2 : Lib.TabIs Tryd.prog W "tether/fcs.half32" .u32 L32 := Lib.tabIs_of_head g2 (t := 122) (by kernel_rfl) Tryd.underlying122 Tryd.underlying36 (by kernel_rfl) (by kernel_rfl) (laidMet.tail h)
  exact ⟨fun i hi => by rw [t1.cell g1 i hi, tab16_int i hi], fun i hi => by rw [t2.cell g2 i hi, tab32_int i hi]⟩
end Go.Proofs.YtdnheiefbecaeaaDoor
