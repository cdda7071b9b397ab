/-
  The listed variable as a table: fcs.half16 alone.
-/
import Derived.Test.YtmdlpbgelgeiaaaDoorRows
import Derived.Test.YtmdlpbgelgeiaaaDoorNext16
import Derived.Lib.LaidTab
import Derived.Stop.LaidErr
import Derived.MakeChecks
import Derived.LaidMore
namespace Go.Proofs.YtmdlpbgelgeiaaaDoor
theorem of_laidH {W : World} (h : laidMetH Tryd.prog [("tether/fcs.half16", Rows.laid_tether_fcs_half16)] W) : Tab16 W := by
  rw [MakeChecks.laidMetH_plain _ _ _ (by kernel_rfl)] at h
  have g1 : Tryd.prog.globalNamed "tether/fcs.half16" = some 0 := by kernel_rfl
  have t1 : Lib.TabIs Tryd.prog W "tether/fcs.half16" .u16 L16 := Lib.tabIs_of_head g1 (t := 91) (by kernel_rfl) Tryd.underlying91 Tryd.underlying73 (by kernel_rfl) (by kernel_rfl) h
  exact fun i hi => by rw [t1.cell g1 i hi, tab16_int i hi]
end Go.Proofs.YtmdlpbgelgeiaaaDoor
