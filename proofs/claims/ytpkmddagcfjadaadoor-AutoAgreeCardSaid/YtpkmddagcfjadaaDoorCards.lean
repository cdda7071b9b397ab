/-
  DERIVED. GIVEN WITH THE SEED: THE CARDS: each row of YtpkmddagcfjadaaDoorRows.lean that lists a variable, with what it lists TIED to the program's text (the seventh form; the later family's looks); each row that meets fmt, with fmt's text TOLD by the authors' own Lean function (tested against real Go, not proved from fmt's source: count such statements apart). THE CARD IS WHAT COUNTS. Prove the row's statement (the work); the ties are given (YtpkmddagcfjadaaDoorTie.lean); close each card by the builder's one call (the guide's Derived/Test/ToyasCard.lean, 'card_holds'). Laid BY PROGRAM, IN A SANDBOX (cutbox-door.mjs). By AI agents, Wed Nov 11 2026. No macro, syntax, notation, axiom, sorry.
-/
import Derived.Test.YtpkmddagcfjadaaDoorRows
import GoSem.ClaimSeven
namespace Go.Proofs.YtpkmddagcfjadaaDoor
namespace Rows

/-- THE TIED CARD OF 'tetherlaw10.AutoTable'. -/
def autoTableCard : Claim7 := { stood := { row := autoTableRow, standIns := [], harness := (true, "b0b508438ec1c8c9879b402e7829e8f8d0dbd018c5cf648276ca1a9162af6d77"), looks := false }, kinds := [], alts := [], laidByText := true, laidKinds := [.data, .data, .data], laidTests := true, laidLooks := .later }
def AutoTableCardSaid : Prop := Claim7.holds Tryd.pinned (.plain (OpenSpec.ofChange autoTableSpec)) autoTableCard

/-- THE TIED CARD OF 'tetherlaw10.AutoWhole'. -/
def autoWholeCard : Claim7 := { stood := { row := autoWholeRow, standIns := [], harness := (true, "b0b508438ec1c8c9879b402e7829e8f8d0dbd018c5cf648276ca1a9162af6d77"), looks := false }, kinds := [], alts := [], laidByText := true, laidKinds := [.data, .data], laidTests := true, laidLooks := .later }
def AutoWholeCardSaid : Prop := Claim7.holds Tryd.pinned (.plain (OpenSpec.ofChange autoWholeSpec)) autoWholeCard

/-- THE TIED CARD OF 'tetherlaw10.AutoSends'. -/
def autoSendsCard : Claim7 := { stood := { row := autoSendsRow, standIns := [], harness := (true, "b0b508438ec1c8c9879b402e7829e8f8d0dbd018c5cf648276ca1a9162af6d77"), looks := false }, kinds := [], alts := [], laidByText := true, laidKinds := [.data, .data, .data], laidTests := true, laidLooks := .later }
def AutoSendsCardSaid : Prop := Claim7.holds Tryd.pinned (.plain (OpenSpec.ofChange autoSendsSpec)) autoSendsCard

/-- THE TIED CARD OF 'tetherlaw10.AutoPlays'. -/
def autoPlaysCard : Claim7 := { stood := { row := autoPlaysRow, standIns := [], harness := (true, "b0b508438ec1c8c9879b402e7829e8f8d0dbd018c5cf648276ca1a9162af6d77"), looks := false }, kinds := [], alts := [], laidByText := true, laidKinds := [.data, .data], laidTests := true, laidLooks := .later }
def AutoPlaysCardSaid : Prop := Claim7.holds Tryd.pinned (.plain (OpenSpec.ofChange autoPlaysSpec)) autoPlaysCard

/-- THE TIED CARD OF 'tetherlaw10.AutoRuns'. -/
def autoRunsCard : Claim7 := { stood := { row := autoRunsRow, standIns := [], harness := (true, "b0b508438ec1c8c9879b402e7829e8f8d0dbd018c5cf648276ca1a9162af6d77"), looks := false }, kinds := [], alts := [], laidByText := true, laidKinds := [.data, .data], laidTests := true, laidLooks := .later }
def AutoRunsCardSaid : Prop := Claim7.holds Tryd.pinned (.plain (OpenSpec.ofChange autoRunsSpec)) autoRunsCard

/-- THE TIED CARD OF 'tetherlaw10.AutoMay'. -/
def autoMayCard : Claim7 := { stood := { row := autoMayRow, standIns := [], harness := (true, "b0b508438ec1c8c9879b402e7829e8f8d0dbd018c5cf648276ca1a9162af6d77"), looks := false }, kinds := [], alts := [], laidByText := true, laidKinds := [.data, .data, .data], laidTests := true, laidLooks := .later }
def AutoMayCardSaid : Prop := Claim7.holds Tryd.pinned (.plain (OpenSpec.ofChange autoMaySpec)) autoMayCard

/-- THE TIED CARD OF 'tetherlaw10.AutoEnds'. -/
def autoEndsCard : Claim7 := { stood := { row := autoEndsRow, standIns := [], harness := (true, "b0b508438ec1c8c9879b402e7829e8f8d0dbd018c5cf648276ca1a9162af6d77"), looks := false }, kinds := [], alts := [], laidByText := true, laidKinds := [.data, .data], laidTests := true, laidLooks := .later }
def AutoEndsCardSaid : Prop := Claim7.holds Tryd.pinned (.plain (OpenSpec.ofChange autoEndsSpec)) autoEndsCard

/-- THE TIED CARD OF 'tetherlaw10.AutoAgree'. -/
def autoAgreeCard : Claim7 := { stood := { row := autoAgreeRow, standIns := [], harness := (true, "b0b508438ec1c8c9879b402e7829e8f8d0dbd018c5cf648276ca1a9162af6d77"), looks := false }, kinds := [], alts := [], laidByText := true, laidKinds := [.data, .data, .data], laidTests := true, laidLooks := .later }
def AutoAgreeCardSaid : Prop := Claim7.holds Tryd.pinned (.plain (OpenSpec.ofChange autoAgreeSpec)) autoAgreeCard

/-- THE TIED CARD OF 'tetherlaw10.AutoNil'. -/
def autoNilCard : Claim7 := { stood := { row := autoNilRow, standIns := [], harness := (true, "b0b508438ec1c8c9879b402e7829e8f8d0dbd018c5cf648276ca1a9162af6d77"), looks := false }, kinds := [], alts := [], laidByText := true, laidKinds := [.data, .data], laidTests := true, laidLooks := .later }
def AutoNilCardSaid : Prop := Claim7.holds Tryd.pinned (.plain (OpenSpec.ofChange autoNilSpec)) autoNilCard

/-- THE SECOND FORM's CARD OF 'tetherlaw10.AutoTable'. -/
def autoTableUptoCard : Claim7 := { stood := { row := autoTableUptoRow, standIns := [], harness := (true, "b0b508438ec1c8c9879b402e7829e8f8d0dbd018c5cf648276ca1a9162af6d77"), looks := false }, kinds := [], alts := [], laidByText := true, laidKinds := [.data, .data, .data], laidTests := true, laidLooks := .later }
def AutoTableUptoCardSaid : Prop := Claim7.holds Tryd.pinned (.plain (OpenSpec.upto autoTableSpec)) autoTableUptoCard

/-- THE SECOND FORM's CARD OF 'tetherlaw10.AutoWhole'. -/
def autoWholeUptoCard : Claim7 := { stood := { row := autoWholeUptoRow, standIns := [], harness := (true, "b0b508438ec1c8c9879b402e7829e8f8d0dbd018c5cf648276ca1a9162af6d77"), looks := false }, kinds := [], alts := [], laidByText := true, laidKinds := [.data, .data], laidTests := true, laidLooks := .later }
def AutoWholeUptoCardSaid : Prop := Claim7.holds Tryd.pinned (.plain (OpenSpec.upto autoWholeSpec)) autoWholeUptoCard

/-- THE SECOND FORM's CARD OF 'tetherlaw10.AutoSends'. -/
def autoSendsUptoCard : Claim7 := { stood := { row := autoSendsUptoRow, standIns := [], harness := (true, "b0b508438ec1c8c9879b402e7829e8f8d0dbd018c5cf648276ca1a9162af6d77"), looks := false }, kinds := [], alts := [], laidByText := true, laidKinds := [.data, .data, .data], laidTests := true, laidLooks := .later }
def AutoSendsUptoCardSaid : Prop := Claim7.holds Tryd.pinned (.plain (OpenSpec.upto autoSendsSpec)) autoSendsUptoCard

/-- THE SECOND FORM's CARD OF 'tetherlaw10.AutoPlays'. -/
def autoPlaysUptoCard : Claim7 := { stood := { row := autoPlaysUptoRow, standIns := [], harness := (true, "b0b508438ec1c8c9879b402e7829e8f8d0dbd018c5cf648276ca1a9162af6d77"), looks := false }, kinds := [], alts := [], laidByText := true, laidKinds := [.data, .data], laidTests := true, laidLooks := .later }
def AutoPlaysUptoCardSaid : Prop := Claim7.holds Tryd.pinned (.plain (OpenSpec.upto autoPlaysSpec)) autoPlaysUptoCard

/-- THE SECOND FORM's CARD OF 'tetherlaw10.AutoRuns'. -/
def autoRunsUptoCard : Claim7 := { stood := { row := autoRunsUptoRow, standIns := [], harness := (true, "b0b508438ec1c8c9879b402e7829e8f8d0dbd018c5cf648276ca1a9162af6d77"), looks := false }, kinds := [], alts := [], laidByText := true, laidKinds := [.data, .data], laidTests := true, laidLooks := .later }
def AutoRunsUptoCardSaid : Prop := Claim7.holds Tryd.pinned (.plain (OpenSpec.upto autoRunsSpec)) autoRunsUptoCard

/-- THE SECOND FORM's CARD OF 'tetherlaw10.AutoMay'. -/
def autoMayUptoCard : Claim7 := { stood := { row := autoMayUptoRow, standIns := [], harness := (true, "b0b508438ec1c8c9879b402e7829e8f8d0dbd018c5cf648276ca1a9162af6d77"), looks := false }, kinds := [], alts := [], laidByText := true, laidKinds := [.data, .data, .data], laidTests := true, laidLooks := .later }
def AutoMayUptoCardSaid : Prop := Claim7.holds Tryd.pinned (.plain (OpenSpec.upto autoMaySpec)) autoMayUptoCard

/-- THE SECOND FORM's CARD OF 'tetherlaw10.AutoEnds'. -/
def autoEndsUptoCard : Claim7 := { stood := { row := autoEndsUptoRow, standIns := [], harness := (true, "b0b508438ec1c8c9879b402e7829e8f8d0dbd018c5cf648276ca1a9162af6d77"), looks := false }, kinds := [], alts := [], laidByText := true, laidKinds := [.data, .data], laidTests := true, laidLooks := .later }
def AutoEndsUptoCardSaid : Prop := Claim7.holds Tryd.pinned (.plain (OpenSpec.upto autoEndsSpec)) autoEndsUptoCard

/-- THE SECOND FORM's CARD OF 'tetherlaw10.AutoAgree'. -/
def autoAgreeUptoCard : Claim7 := { stood := { row := autoAgreeUptoRow, standIns := [], harness := (true, "b0b508438ec1c8c9879b402e7829e8f8d0dbd018c5cf648276ca1a9162af6d77"), looks := false }, kinds := [], alts := [], laidByText := true, laidKinds := [.data, .data, .data], laidTests := true, laidLooks := .later }
def AutoAgreeUptoCardSaid : Prop := Claim7.holds Tryd.pinned (.plain (OpenSpec.upto autoAgreeSpec)) autoAgreeUptoCard

/-- THE SECOND FORM's CARD OF 'tetherlaw10.AutoNil'. -/
def autoNilUptoCard : Claim7 := { stood := { row := autoNilUptoRow, standIns := [], harness := (true, "b0b508438ec1c8c9879b402e7829e8f8d0dbd018c5cf648276ca1a9162af6d77"), looks := false }, kinds := [], alts := [], laidByText := true, laidKinds := [.data, .data], laidTests := true, laidLooks := .later }
def AutoNilUptoCardSaid : Prop := Claim7.holds Tryd.pinned (.plain (OpenSpec.upto autoNilSpec)) autoNilUptoCard
end Rows
end Go.Proofs.YtpkmddagcfjadaaDoor
