/-
  DERIVED. GIVEN WITH THE SEED: THE CARDS: each row of YtplmflgmfffdhaaDoorRows.lean that lists a variable, with what it lists TIED to the program's text (the seventh form; the later family's looks); each row that meets fmt, with fmt's text TOLD by the authors' own Lean function (tested against real Go, not proved from fmt's source: count such statements apart). THE CARD IS WHAT COUNTS. Prove the row's statement (the work); the ties are given (YtplmflgmfffdhaaDoorTie.lean); close each card by the builder's one call (the guide's Derived/Test/ToyasCard.lean, 'card_holds'). Laid BY PROGRAM, IN A SANDBOX (cutbox-door.mjs). By AI agents, Wed Nov 11 2026. No macro, syntax, notation, axiom, sorry.
-/
import Derived.Test.YtplmflgmfffdhaaDoorRows
import GoSem.ClaimSeven
namespace Go.Proofs.YtplmflgmfffdhaaDoor
namespace Rows

/-- THE TIED CARD OF 'tetherlaw25.MeterNumbers'. -/
def meterNumbersCard : Claim7 := { stood := { row := meterNumbersRow, standIns := [], harness := (true, "b441c32ec80330dca521bb9826da747ae460216fdd0645833de4ad56bb48e449"), looks := false }, kinds := [], alts := [], laidByText := true, laidKinds := [.data, .data, .data, .data, .pinned, .pinned], laidTests := true, laidLooks := .later }
def MeterNumbersCardSaid : Prop := Claim7.holds Tryd.pinned (.plain (OpenSpec.ofChange meterNumbersSpec)) meterNumbersCard

/-- THE TIED CARD OF 'tetherlaw25.MeterBest'. -/
def meterBestCard : Claim7 := { stood := { row := meterBestRow, standIns := [], harness := (true, "b441c32ec80330dca521bb9826da747ae460216fdd0645833de4ad56bb48e449"), looks := false }, kinds := [], alts := [], laidByText := true, laidKinds := [.data, .data, .data, .data, .pinned, .pinned], laidTests := true, laidLooks := .later }
def MeterBestCardSaid : Prop := Claim7.holds Tryd.pinned (.plain (OpenSpec.ofChange meterBestSpec)) meterBestCard

/-- THE TIED CARD OF 'tetherlaw25.MeterOrders'. -/
def meterOrdersCard : Claim7 := { stood := { row := meterOrdersRow, standIns := [], harness := (true, "b441c32ec80330dca521bb9826da747ae460216fdd0645833de4ad56bb48e449"), looks := false }, kinds := [], alts := [], laidByText := true, laidKinds := [.data, .data, .data, .data, .pinned, .pinned], laidTests := true, laidLooks := .later }
def MeterOrdersCardSaid : Prop := Claim7.holds Tryd.pinned (.plain (OpenSpec.ofChange meterOrdersSpec)) meterOrdersCard

/-- THE TIED CARD OF 'tetherlaw25.MeterPlays'. -/
def meterPlaysCard : Claim7 := { stood := { row := meterPlaysRow, standIns := [], harness := (true, "b441c32ec80330dca521bb9826da747ae460216fdd0645833de4ad56bb48e449"), looks := false }, kinds := [], alts := [], laidByText := true, laidKinds := [.data, .data, .data, .data, .pinned, .pinned], laidTests := true, laidLooks := .later }
def MeterPlaysCardSaid : Prop := Claim7.holds Tryd.pinned (.plain (OpenSpec.ofChange meterPlaysSpec)) meterPlaysCard

/-- THE TIED CARD OF 'tetherlaw25.MeterBounds'. -/
def meterBoundsCard : Claim7 := { stood := { row := meterBoundsRow, standIns := [], harness := (true, "b441c32ec80330dca521bb9826da747ae460216fdd0645833de4ad56bb48e449"), looks := false }, kinds := [], alts := [], laidByText := true, laidKinds := [.data, .data, .data, .data, .pinned, .pinned], laidTests := true, laidLooks := .later }
def MeterBoundsCardSaid : Prop := Claim7.holds Tryd.pinned (.plain (OpenSpec.ofChange meterBoundsSpec)) meterBoundsCard

/-- THE TIED CARD OF 'tetherlaw25.MeterNil'. -/
def meterNilCard : Claim7 := { stood := { row := meterNilRow, standIns := [], harness := (true, "b441c32ec80330dca521bb9826da747ae460216fdd0645833de4ad56bb48e449"), looks := false }, kinds := [], alts := [], laidByText := true, laidKinds := [.data, .data, .data, .data, .pinned, .pinned], laidTests := true, laidLooks := .later }
def MeterNilCardSaid : Prop := Claim7.holds Tryd.pinned (.plain (OpenSpec.ofChange meterNilSpec)) meterNilCard

/-- THE SECOND FORM's CARD OF 'tetherlaw25.MeterNumbers'. -/
def meterNumbersUptoCard : Claim7 := { stood := { row := meterNumbersUptoRow, standIns := [], harness := (true, "b441c32ec80330dca521bb9826da747ae460216fdd0645833de4ad56bb48e449"), looks := false }, kinds := [], alts := [], laidByText := true, laidKinds := [.data, .data, .data, .data, .pinned, .pinned], laidTests := true, laidLooks := .later }
def MeterNumbersUptoCardSaid : Prop := Claim7.holds Tryd.pinned (.plain (OpenSpec.upto meterNumbersSpec)) meterNumbersUptoCard

/-- THE SECOND FORM's CARD OF 'tetherlaw25.MeterBest'. -/
def meterBestUptoCard : Claim7 := { stood := { row := meterBestUptoRow, standIns := [], harness := (true, "b441c32ec80330dca521bb9826da747ae460216fdd0645833de4ad56bb48e449"), looks := false }, kinds := [], alts := [], laidByText := true, laidKinds := [.data, .data, .data, .data, .pinned, .pinned], laidTests := true, laidLooks := .later }
def MeterBestUptoCardSaid : Prop := Claim7.holds Tryd.pinned (.plain (OpenSpec.upto meterBestSpec)) meterBestUptoCard

/-- THE SECOND FORM's CARD OF 'tetherlaw25.MeterOrders'. -/
def meterOrdersUptoCard : Claim7 := { stood := { row := meterOrdersUptoRow, standIns := [], harness := (true, "b441c32ec80330dca521bb9826da747ae460216fdd0645833de4ad56bb48e449"), looks := false }, kinds := [], alts := [], laidByText := true, laidKinds := [.data, .data, .data, .data, .pinned, .pinned], laidTests := true, laidLooks := .later }
def MeterOrdersUptoCardSaid : Prop := Claim7.holds Tryd.pinned (.plain (OpenSpec.upto meterOrdersSpec)) meterOrdersUptoCard

/-- THE SECOND FORM's CARD OF 'tetherlaw25.MeterPlays'. -/
def meterPlaysUptoCard : Claim7 := { stood := { row := meterPlaysUptoRow, standIns := [], harness := (true, "b441c32ec80330dca521bb9826da747ae460216fdd0645833de4ad56bb48e449"), looks := false }, kinds := [], alts := [], laidByText := true, laidKinds := [.data, .data, .data, .data, .pinned, .pinned], laidTests := true, laidLooks := .later }
def MeterPlaysUptoCardSaid : Prop := Claim7.holds Tryd.pinned (.plain (OpenSpec.upto meterPlaysSpec)) meterPlaysUptoCard

/-- THE SECOND FORM's CARD OF 'tetherlaw25.MeterBounds'. -/
def meterBoundsUptoCard : Claim7 := { stood := { row := meterBoundsUptoRow, standIns := [], harness := (true, "b441c32ec80330dca521bb9826da747ae460216fdd0645833de4ad56bb48e449"), looks := false }, kinds := [], alts := [], laidByText := true, laidKinds := [.data, .data, .data, .data, .pinned, .pinned], laidTests := true, laidLooks := .later }
def MeterBoundsUptoCardSaid : Prop := Claim7.holds Tryd.pinned (.plain (OpenSpec.upto meterBoundsSpec)) meterBoundsUptoCard

/-- THE SECOND FORM's CARD OF 'tetherlaw25.MeterNil'. -/
def meterNilUptoCard : Claim7 := { stood := { row := meterNilUptoRow, standIns := [], harness := (true, "b441c32ec80330dca521bb9826da747ae460216fdd0645833de4ad56bb48e449"), looks := false }, kinds := [], alts := [], laidByText := true, laidKinds := [.data, .data, .data, .data, .pinned, .pinned], laidTests := true, laidLooks := .later }
def MeterNilUptoCardSaid : Prop := Claim7.holds Tryd.pinned (.plain (OpenSpec.upto meterNilSpec)) meterNilUptoCard
end Rows
end Go.Proofs.YtplmflgmfffdhaaDoor
