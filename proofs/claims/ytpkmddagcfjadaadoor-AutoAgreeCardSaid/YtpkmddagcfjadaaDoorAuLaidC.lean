/-
  What the listed variables of auto give the walks, the codes among them.
-/
import Derived.Test.YtpkmddagcfjadaaDoorAuLaid
import Derived.Test.YtpkmddagcfjadaaDoorAuSnd
namespace Go.Proofs.YtpkmddagcfjadaaDoor
open Go.RowKit
set_option maxRecDepth 100000
theorem codes_of {W : World} {rest : List (String × DataW Unit)} (h : laidMet Tryd.prog (("tether/auto.codes", Rows.laid_tether_auto_codes) :: rest) W) : TabC W := by
  have g1 : Tryd.prog.globalNamed "tether/auto.codes" = some 3 := by kernel_rfl
  have t1 : Lib.TabIs Tryd.prog W "tether/auto.codes" .i64 auCodes := Lib.tabIs_of_head g1 (t := 70) (by kernel_rfl) Tryd.underlying70 Tryd.underlying3 (by kernel_rfl) (by kernel_rfl) h
  exact fun i hi => t1.cell g1 i hi
theorem of_laidC {W : World} (h : laidMetH Tryd.prog [("tether/auto.codes", Rows.laid_tether_auto_codes), ("tether/auto.stateNames", Rows.laid_tether_auto_stateNames), ("tether/auto.table", Rows.laid_tether_auto_table)] W) : (TabA W ∧ TabN W) ∧ TabC W := by
  rw [MakeChecks.laidMetH_plain _ _ _ (by kernel_rfl)] at h
  exact ⟨⟨tab_of (laidMet.tail (laidMet.tail h)), states_of (laidMet.tail h)⟩, codes_of h⟩
end Go.Proofs.YtpkmddagcfjadaaDoor
