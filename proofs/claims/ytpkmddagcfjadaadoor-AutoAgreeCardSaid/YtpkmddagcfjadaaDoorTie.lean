/-
  DERIVED. GIVEN WITH THE SEED: THE PROGRAM's TIES (one call each: nine closed facts by the kernel) AND EACH ROW's TIE, after the 31st guide's Derived/Test/Toyas{Tie, Card}.lean. No idea stands in it: it is a product of the set-up. Laid BY PROGRAM, IN A SANDBOX (cutbox-door.mjs). By AI agents, Wed Nov 11 2026. No macro, syntax, notation, axiom, sorry.
-/
import Derived.Test.YtpkmddagcfjadaaDoorRows
import Derived.LaidByTextLater
import Derived.SevenTiedAt
import Derived.LaidSub
import Derived.LaidOnce
namespace Go.Proofs.YtpkmddagcfjadaaDoor
open Go
set_option maxRecDepth 100000
theorem seatTie1 : Tryd.prog.laidByTextLater [("tether/auto.codes", Rows.laid_tether_auto_codes), ("tether/auto.stateNames", Rows.laid_tether_auto_stateNames), ("tether/auto.eventNames", Rows.laid_tether_auto_eventNames), ("tether/auto.table", Rows.laid_tether_auto_table)] [.data, .data, .data, .data] true :=
  Program.laidByTextLater_by_one 45 8 161 (by kernel_rfl) (by kernel_rfl) (by kernel_rfl) (by kernel_rfl) (by kernel_rfl) (by kernel_rfl) (fun _ _ => by kernel_rfl)
theorem noOwnUnsafe : Tryd.pinned.checked.prog.headLifts.contains "ownunsafe" = false := by kernel_rfl
theorem tie : Tryd.prog.laidByTextLater [("tether/auto.stateNames", Rows.laid_tether_auto_stateNames), ("tether/auto.eventNames", Rows.laid_tether_auto_eventNames), ("tether/auto.table", Rows.laid_tether_auto_table)] [.data, .data, .data] true :=
  Program.laidByTextLater.sub seatTie1 ["tether/auto.stateNames", "tether/auto.eventNames", "tether/auto.table"] (by kernel_rfl) (by kernel_rfl)
theorem autoTable_row_tie : Rows.autoTableRow.laidByTextAt .later Tryd.pinned [.data, .data, .data] true :=
  OpenClaim.laidByTextAt_later rfl rfl tie noOwnUnsafe
theorem tie2 : Tryd.prog.laidByTextLater [("tether/auto.stateNames", Rows.laid_tether_auto_stateNames), ("tether/auto.table", Rows.laid_tether_auto_table)] [.data, .data] true :=
  Program.laidByTextLater.sub seatTie1 ["tether/auto.stateNames", "tether/auto.table"] (by kernel_rfl) (by kernel_rfl)
theorem autoWhole_row_tie : Rows.autoWholeRow.laidByTextAt .later Tryd.pinned [.data, .data] true :=
  OpenClaim.laidByTextAt_later rfl rfl tie2 noOwnUnsafe
theorem autoPlays_row_tie : Rows.autoPlaysRow.laidByTextAt .later Tryd.pinned [.data, .data] true :=
  OpenClaim.laidByTextAt_later rfl rfl tie2 noOwnUnsafe
theorem autoRuns_row_tie : Rows.autoRunsRow.laidByTextAt .later Tryd.pinned [.data, .data] true :=
  OpenClaim.laidByTextAt_later rfl rfl tie2 noOwnUnsafe
theorem autoEnds_row_tie : Rows.autoEndsRow.laidByTextAt .later Tryd.pinned [.data, .data] true :=
  OpenClaim.laidByTextAt_later rfl rfl tie2 noOwnUnsafe
theorem autoNil_row_tie : Rows.autoNilRow.laidByTextAt .later Tryd.pinned [.data, .data] true :=
  OpenClaim.laidByTextAt_later rfl rfl tie2 noOwnUnsafe
theorem tie3 : Tryd.prog.laidByTextLater [("tether/auto.codes", Rows.laid_tether_auto_codes), ("tether/auto.stateNames", Rows.laid_tether_auto_stateNames), ("tether/auto.table", Rows.laid_tether_auto_table)] [.data, .data, .data] true :=
  Program.laidByTextLater.sub seatTie1 ["tether/auto.codes", "tether/auto.stateNames", "tether/auto.table"] (by kernel_rfl) (by kernel_rfl)
theorem autoSends_row_tie : Rows.autoSendsRow.laidByTextAt .later Tryd.pinned [.data, .data, .data] true :=
  OpenClaim.laidByTextAt_later rfl rfl tie3 noOwnUnsafe
theorem autoMay_row_tie : Rows.autoMayRow.laidByTextAt .later Tryd.pinned [.data, .data, .data] true :=
  OpenClaim.laidByTextAt_later rfl rfl tie3 noOwnUnsafe
theorem autoAgree_row_tie : Rows.autoAgreeRow.laidByTextAt .later Tryd.pinned [.data, .data, .data] true :=
  OpenClaim.laidByTextAt_later rfl rfl tie3 noOwnUnsafe
theorem autoTableUpto_row_tie : Rows.autoTableUptoRow.laidByTextAt .later Tryd.pinned [.data, .data, .data] true :=
  OpenClaim.laidByTextAt_later rfl rfl tie noOwnUnsafe
theorem autoWholeUpto_row_tie : Rows.autoWholeUptoRow.laidByTextAt .later Tryd.pinned [.data, .data] true :=
  OpenClaim.laidByTextAt_later rfl rfl tie2 noOwnUnsafe
theorem autoSendsUpto_row_tie : Rows.autoSendsUptoRow.laidByTextAt .later Tryd.pinned [.data, .data, .data] true :=
  OpenClaim.laidByTextAt_later rfl rfl tie3 noOwnUnsafe
theorem autoPlaysUpto_row_tie : Rows.autoPlaysUptoRow.laidByTextAt .later Tryd.pinned [.data, .data] true :=
  OpenClaim.laidByTextAt_later rfl rfl tie2 noOwnUnsafe
theorem autoRunsUpto_row_tie : Rows.autoRunsUptoRow.laidByTextAt .later Tryd.pinned [.data, .data] true :=
  OpenClaim.laidByTextAt_later rfl rfl tie2 noOwnUnsafe
theorem autoMayUpto_row_tie : Rows.autoMayUptoRow.laidByTextAt .later Tryd.pinned [.data, .data, .data] true :=
  OpenClaim.laidByTextAt_later rfl rfl tie3 noOwnUnsafe
theorem autoEndsUpto_row_tie : Rows.autoEndsUptoRow.laidByTextAt .later Tryd.pinned [.data, .data] true :=
  OpenClaim.laidByTextAt_later rfl rfl tie2 noOwnUnsafe
theorem autoAgreeUpto_row_tie : Rows.autoAgreeUptoRow.laidByTextAt .later Tryd.pinned [.data, .data, .data] true :=
  OpenClaim.laidByTextAt_later rfl rfl tie3 noOwnUnsafe
theorem autoNilUpto_row_tie : Rows.autoNilUptoRow.laidByTextAt .later Tryd.pinned [.data, .data] true :=
  OpenClaim.laidByTextAt_later rfl rfl tie2 noOwnUnsafe
end Go.Proofs.YtpkmddagcfjadaaDoor
