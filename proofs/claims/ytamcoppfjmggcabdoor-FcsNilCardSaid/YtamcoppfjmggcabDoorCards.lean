/-
  DERIVED. GIVEN WITH THE SEED: THE CARDS: each row of YtamcoppfjmggcabDoorRows.lean that lists a variable, with what it lists TIED to the program's text (the seventh form; the later family's looks); each row that meets fmt, with fmt's text TOLD by the authors' own Lean function (tested against real Go, not proved from fmt's source: count such statements apart). THE CARD IS WHAT COUNTS. Prove the row's statement (the work); the ties are given (YtamcoppfjmggcabDoorTie.lean); close each card by the builder's one call (the guide's Derived/Test/ToyasCard.lean, 'card_holds'). Laid BY PROGRAM, IN A SANDBOX (cutbox-door.mjs). By AI agents, Wed Nov 11 2026. No macro, syntax, notation, axiom, sorry.
-/
import Derived.Test.YtamcoppfjmggcabDoorRows
import GoSem.ClaimSeven
namespace Go.Proofs.YtamcoppfjmggcabDoor
namespace Rows

/-- THE TIED CARD OF 'tetherlaw02.FcsBursts'. -/
def fcsBurstsCard : Claim7 := { stood := { row := fcsBurstsRow, standIns := [], harness := (true, "dac69dbfa3c467c00322bb563bf9c9e38aa273218fd947e919f8a632af70f355"), looks := false }, kinds := [], alts := [], laidByText := true, laidKinds := [.data, .data], laidTests := true, laidLooks := .later }
def FcsBurstsCardSaid : Prop := Claim7.holds Tryd.pinned (.plain (OpenSpec.ofChange fcsBurstsSpec)) fcsBurstsCard

/-- THE TIED CARD OF 'tetherlaw02.FcsLinear'. -/
def fcsLinearCard : Claim7 := { stood := { row := fcsLinearRow, standIns := [], harness := (true, "dac69dbfa3c467c00322bb563bf9c9e38aa273218fd947e919f8a632af70f355"), looks := false }, kinds := [], alts := [], laidByText := true, laidKinds := [.data, .data], laidTests := true, laidLooks := .later }
def FcsLinearCardSaid : Prop := Claim7.holds Tryd.pinned (.plain (OpenSpec.ofChange fcsLinearSpec)) fcsLinearCard

/-- THE TIED CARD OF 'tetherlaw02.FcsNil'. -/
def fcsNilCard : Claim7 := { stood := { row := fcsNilRow, standIns := [], harness := (true, "dac69dbfa3c467c00322bb563bf9c9e38aa273218fd947e919f8a632af70f355"), looks := false }, kinds := [], alts := [], laidByText := true, laidKinds := [.data, .data], laidTests := true, laidLooks := .later }
def FcsNilCardSaid : Prop := Claim7.holds Tryd.pinned (.plain (OpenSpec.ofChange fcsNilSpec)) fcsNilCard

/-- THE SECOND FORM's CARD OF 'tetherlaw02.FcsBursts'. -/
def fcsBurstsUptoCard : Claim7 := { stood := { row := fcsBurstsUptoRow, standIns := [], harness := (true, "dac69dbfa3c467c00322bb563bf9c9e38aa273218fd947e919f8a632af70f355"), looks := false }, kinds := [], alts := [], laidByText := true, laidKinds := [.data, .data], laidTests := true, laidLooks := .later }
def FcsBurstsUptoCardSaid : Prop := Claim7.holds Tryd.pinned (.plain (OpenSpec.upto fcsBurstsSpec)) fcsBurstsUptoCard

/-- THE SECOND FORM's CARD OF 'tetherlaw02.FcsLinear'. -/
def fcsLinearUptoCard : Claim7 := { stood := { row := fcsLinearUptoRow, standIns := [], harness := (true, "dac69dbfa3c467c00322bb563bf9c9e38aa273218fd947e919f8a632af70f355"), looks := false }, kinds := [], alts := [], laidByText := true, laidKinds := [.data, .data], laidTests := true, laidLooks := .later }
def FcsLinearUptoCardSaid : Prop := Claim7.holds Tryd.pinned (.plain (OpenSpec.upto fcsLinearSpec)) fcsLinearUptoCard

/-- THE SECOND FORM's CARD OF 'tetherlaw02.FcsNil'. -/
def fcsNilUptoCard : Claim7 := { stood := { row := fcsNilUptoRow, standIns := [], harness := (true, "dac69dbfa3c467c00322bb563bf9c9e38aa273218fd947e919f8a632af70f355"), looks := false }, kinds := [], alts := [], laidByText := true, laidKinds := [.data, .data], laidTests := true, laidLooks := .later }
def FcsNilUptoCardSaid : Prop := Claim7.holds Tryd.pinned (.plain (OpenSpec.upto fcsNilSpec)) fcsNilUptoCard
end Rows
end Go.Proofs.YtamcoppfjmggcabDoor
