/-
  DERIVED. GIVEN WITH THE SEED: THE CARDS: each row of YtnklamclcliddaaDoorRows.lean that lists a variable, with what it lists TIED to the program's text (the seventh form; the later family's looks); each row that meets fmt, with fmt's text TOLD by the authors' own Lean function (tested against real Go, not proved from fmt's source: count such statements apart). THE CARD IS WHAT COUNTS. Prove the row's statement (the work); the ties are given (YtnklamclcliddaaDoorTie.lean); close each card by the builder's one call (the guide's Derived/Test/ToyasCard.lean, 'card_holds'). Laid BY PROGRAM, IN A SANDBOX (cutbox-door.mjs). By AI agents, Wed Nov 11 2026. No macro, syntax, notation, axiom, sorry.
-/
import Derived.Test.YtnklamclcliddaaDoorRows
import GoSem.ClaimSeven
namespace Go.Proofs.YtnklamclcliddaaDoor
namespace Rows

/-- THE TIED CARD OF 'tetherlaw13.ChapPackets'. -/
def chapPacketsCard : Claim7 := { stood := { row := chapPacketsRow, standIns := [], harness := (true, "f0e9f884f44841bdf9ee3b1824b38b1243cb8dae663016a607723abab46bdbd4"), looks := true }, kinds := [], alts := [], laidByText := true, laidKinds := [.data, .data], laidTests := true, laidLooks := .later }
def ChapPacketsCardSaid : Prop := Claim7.holds Tryd.pinned (.plain (OpenSpec.ofChange chapPacketsSpec)) chapPacketsCard

/-- THE TIED CARD OF 'tetherlaw14.EapMessages'. -/
def eapMessagesCard : Claim7 := { stood := { row := eapMessagesRow, standIns := [], harness := (true, "f0e9f884f44841bdf9ee3b1824b38b1243cb8dae663016a607723abab46bdbd4"), looks := true }, kinds := [], alts := [], laidByText := true, laidKinds := [.data, .data], laidTests := true, laidLooks := .later }
def EapMessagesCardSaid : Prop := Claim7.holds Tryd.pinned (.plain (OpenSpec.ofChange eapMessagesSpec)) eapMessagesCard

/-- THE TIED CARD OF 'tetherlaw14.EapProves'. -/
def eapProvesCard : Claim7 := { stood := { row := eapProvesRow, standIns := [], harness := (true, "f0e9f884f44841bdf9ee3b1824b38b1243cb8dae663016a607723abab46bdbd4"), looks := true }, kinds := [], alts := [], laidByText := true, laidKinds := [.data, .data], laidTests := true, laidLooks := .later }
def EapProvesCardSaid : Prop := Claim7.holds Tryd.pinned (.plain (OpenSpec.ofChange eapProvesSpec)) eapProvesCard

/-- THE TIED CARD OF 'tetherlaw14.EapMeet'. -/
def eapMeetCard : Claim7 := { stood := { row := eapMeetRow, standIns := [], harness := (true, "f0e9f884f44841bdf9ee3b1824b38b1243cb8dae663016a607723abab46bdbd4"), looks := true }, kinds := [], alts := [], laidByText := true, laidKinds := [.data, .data], laidTests := true, laidLooks := .later }
def EapMeetCardSaid : Prop := Claim7.holds Tryd.pinned (.plain (OpenSpec.ofChange eapMeetSpec)) eapMeetCard

/-- THE TIED CARD OF 'tetherlaw14.EapNil'. -/
def eapNilCard : Claim7 := { stood := { row := eapNilRow, standIns := [], harness := (true, "f0e9f884f44841bdf9ee3b1824b38b1243cb8dae663016a607723abab46bdbd4"), looks := true }, kinds := [], alts := [], laidByText := true, laidKinds := [.data, .data], laidTests := true, laidLooks := .later }
def EapNilCardSaid : Prop := Claim7.holds Tryd.pinned (.plain (OpenSpec.ofChange eapNilSpec)) eapNilCard

/-- THE SECOND FORM's CARD OF 'tetherlaw13.ChapPackets'. -/
def chapPacketsUptoCard : Claim7 := { stood := { row := chapPacketsUptoRow, standIns := [], harness := (true, "f0e9f884f44841bdf9ee3b1824b38b1243cb8dae663016a607723abab46bdbd4"), looks := true }, kinds := [], alts := [], laidByText := true, laidKinds := [.data, .data], laidTests := true, laidLooks := .later }
def ChapPacketsUptoCardSaid : Prop := Claim7.holds Tryd.pinned (.plain (OpenSpec.upto chapPacketsSpec)) chapPacketsUptoCard

/-- THE SECOND FORM's CARD OF 'tetherlaw14.EapMessages'. -/
def eapMessagesUptoCard : Claim7 := { stood := { row := eapMessagesUptoRow, standIns := [], harness := (true, "f0e9f884f44841bdf9ee3b1824b38b1243cb8dae663016a607723abab46bdbd4"), looks := true }, kinds := [], alts := [], laidByText := true, laidKinds := [.data, .data], laidTests := true, laidLooks := .later }
def EapMessagesUptoCardSaid : Prop := Claim7.holds Tryd.pinned (.plain (OpenSpec.upto eapMessagesSpec)) eapMessagesUptoCard

/-- THE SECOND FORM's CARD OF 'tetherlaw14.EapProves'. -/
def eapProvesUptoCard : Claim7 := { stood := { row := eapProvesUptoRow, standIns := [], harness := (true, "f0e9f884f44841bdf9ee3b1824b38b1243cb8dae663016a607723abab46bdbd4"), looks := true }, kinds := [], alts := [], laidByText := true, laidKinds := [.data, .data], laidTests := true, laidLooks := .later }
def EapProvesUptoCardSaid : Prop := Claim7.holds Tryd.pinned (.plain (OpenSpec.upto eapProvesSpec)) eapProvesUptoCard

/-- THE SECOND FORM's CARD OF 'tetherlaw14.EapMeet'. -/
def eapMeetUptoCard : Claim7 := { stood := { row := eapMeetUptoRow, standIns := [], harness := (true, "f0e9f884f44841bdf9ee3b1824b38b1243cb8dae663016a607723abab46bdbd4"), looks := true }, kinds := [], alts := [], laidByText := true, laidKinds := [.data, .data], laidTests := true, laidLooks := .later }
def EapMeetUptoCardSaid : Prop := Claim7.holds Tryd.pinned (.plain (OpenSpec.upto eapMeetSpec)) eapMeetUptoCard

/-- THE SECOND FORM's CARD OF 'tetherlaw14.EapNil'. -/
def eapNilUptoCard : Claim7 := { stood := { row := eapNilUptoRow, standIns := [], harness := (true, "f0e9f884f44841bdf9ee3b1824b38b1243cb8dae663016a607723abab46bdbd4"), looks := true }, kinds := [], alts := [], laidByText := true, laidKinds := [.data, .data], laidTests := true, laidLooks := .later }
def EapNilUptoCardSaid : Prop := Claim7.holds Tryd.pinned (.plain (OpenSpec.upto eapNilSpec)) eapNilUptoCard
end Rows
end Go.Proofs.YtnklamclcliddaaDoor
