/-
  What the listed variables of auto give the walks, the events' names among them.
-/
import Derived.Test.YtpkmddagcfjadaaDoorAuLaid
import Derived.Test.YtpkmddagcfjadaaDoorAuNames
namespace Go.Proofs.YtpkmddagcfjadaaDoor
open Go.RowKit
set_option maxRecDepth 100000
theorem events_of {W : World} {rest : List (String × DataW Unit)} (h : laidMet Tryd.prog (("tether/auto.eventNames", Rows.laid_tether_auto_eventNames) :: rest) W) : TabV W := by
  have g1 : Tryd.prog.globalNamed "tether/auto.eventNames" = some 2 := by kernel_rfl
  obtain ⟨ps, ⟨g', t', cs, fuel, p, q, hg', ht', hvar, hd, _, _⟩, _⟩ := h
  obtain rfl := Option.some.inj (g1.symm.trans hg')
  obtain rfl := Option.some.inj ((show (Tryd.prog.globals[2]?).map (·.type) = some 69 by kernel_rfl).symm.trans ht')
  rw [show (Rows.laid_tether_auto_eventNames : DataW Unit) = .agg (auEvents.map fun s => .lit (.string s)) by kernel_rfl] at hd
  intro i hi
  have hcell := World.var?_cell g1 hvar i
  rw [hcell, show cs[i]? = cs.toList[i]? by simp]
  exact cells_of_names Tryd.underlying69 Tryd.underlying9 (by kernel_rfl) hd i hi
theorem of_laidV {W : World} (h : laidMetH Tryd.prog [("tether/auto.stateNames", Rows.laid_tether_auto_stateNames), ("tether/auto.eventNames", Rows.laid_tether_auto_eventNames), ("tether/auto.table", Rows.laid_tether_auto_table)] W) : (TabA W ∧ TabN W) ∧ TabV W := by
  rw [MakeChecks.laidMetH_plain _ _ _ (by kernel_rfl)] at h
  exact ⟨⟨tab_of (laidMet.tail (laidMet.tail h)), states_of h⟩, events_of (laidMet.tail h)⟩
end Go.Proofs.YtpkmddagcfjadaaDoor
