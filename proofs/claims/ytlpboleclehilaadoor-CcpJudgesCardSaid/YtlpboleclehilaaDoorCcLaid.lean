/-
  What the listed table of ccp gives the walks.
-/
import Derived.Test.YtlpboleclehilaaDoorRows
import Derived.Test.YtlpboleclehilaaDoorCcOpts
import Derived.Lib.LaidTab
import Derived.Stop.LaidErr
import Derived.MakeChecks
import Derived.LaidMore
namespace Go.Proofs.YtlpboleclehilaaDoor
open Go.RowKit
set_option maxRecDepth 100000

theorem of_laidP {W : World} (h : laidMetH Tryd.prog [("tether/ccp.methods", Rows.laid_tether_ccp_methods)] W) : TabM W := by
  rw [MakeChecks.laidMetH_plain _ _ _ (by kernel_rfl)] at h
  have g1 : Tryd.prog.globalNamed "tether/ccp.methods" = some 0 := by kernel_rfl
  have t1 : Lib.TabIs Tryd.prog W "tether/ccp.methods" .i64 [26, 21] := Lib.tabIs_of_head g1 (t := 78) (by kernel_rfl) Tryd.underlying78 Tryd.underlying3 (by kernel_rfl) (by kernel_rfl) h
  exact ⟨t1.cell g1 0 (by decide), t1.cell g1 1 (by decide)⟩
end Go.Proofs.YtlpboleclehilaaDoor
