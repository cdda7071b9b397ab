/-
  DERIVED. GIVEN WITH THE SEED: THE CARDS: each row of YtamcoppfjmggcaaDoorRows.lean that lists a variable, with what it lists TIED to the program's text (the seventh form; the later family's looks); each row that meets fmt, with fmt's text TOLD by the authors' own Lean function (tested against real Go, not proved from fmt's source: count such statements apart). THE CARD IS WHAT COUNTS. Prove the row's statement (the work); the ties are given (YtamcoppfjmggcaaDoorTie.lean); close each card by the builder's one call (the guide's Derived/Test/ToyasCard.lean, 'card_holds'). Laid BY PROGRAM, IN A SANDBOX (cutbox-door.mjs). By AI agents, Wed Nov 11 2026. No macro, syntax, notation, axiom, sorry.
-/
import Derived.Test.YtamcoppfjmggcaaDoorRows
import GoSem.ClaimSeven
namespace Go.Proofs.YtamcoppfjmggcaaDoor
namespace Rows

/-- THE TIED CARD OF 'tetherlaw01.OctetDigits'. -/
def octetDigitsCard : Claim7 := { stood := { row := octetDigitsRow, standIns := [], harness := (true, "8cc949b9d39f965b31d0ece3bab36bf75d31493513c827b56c4123bd23170e78"), looks := false }, kinds := [], alts := [], laidByText := true, laidKinds := [.data], laidTests := true, laidLooks := .later }
def OctetDigitsCardSaid : Prop := Claim7.holds Tryd.pinned (.plain (OpenSpec.ofChange octetDigitsSpec)) octetDigitsCard

/-- THE TIED CARD OF 'tetherlaw02.FcsSums'. -/
def fcsSumsCard : Claim7 := { stood := { row := fcsSumsRow, standIns := [], harness := (true, "8cc949b9d39f965b31d0ece3bab36bf75d31493513c827b56c4123bd23170e78"), looks := false }, kinds := [], alts := [], laidByText := true, laidKinds := [.data, .data], laidTests := true, laidLooks := .later }
def FcsSumsCardSaid : Prop := Claim7.holds Tryd.pinned (.plain (OpenSpec.ofChange fcsSumsSpec)) fcsSumsCard

/-- THE TIED CARD OF 'tetherlaw02.FcsCuts'. -/
def fcsCutsCard : Claim7 := { stood := { row := fcsCutsRow, standIns := [], harness := (true, "8cc949b9d39f965b31d0ece3bab36bf75d31493513c827b56c4123bd23170e78"), looks := false }, kinds := [], alts := [], laidByText := true, laidKinds := [.data, .data], laidTests := true, laidLooks := .later }
def FcsCutsCardSaid : Prop := Claim7.holds Tryd.pinned (.plain (OpenSpec.ofChange fcsCutsSpec)) fcsCutsCard

/-- THE TIED CARD OF 'tetherlaw02.FcsJoins'. -/
def fcsJoinsCard : Claim7 := { stood := { row := fcsJoinsRow, standIns := [], harness := (true, "8cc949b9d39f965b31d0ece3bab36bf75d31493513c827b56c4123bd23170e78"), looks := false }, kinds := [], alts := [], laidByText := true, laidKinds := [.data, .data], laidTests := true, laidLooks := .later }
def FcsJoinsCardSaid : Prop := Claim7.holds Tryd.pinned (.plain (OpenSpec.ofChange fcsJoinsSpec)) fcsJoinsCard

/-- THE TIED CARD OF 'tetherlaw02.FcsFar'. -/
def fcsFarCard : Claim7 := { stood := { row := fcsFarRow, standIns := [], harness := (true, "8cc949b9d39f965b31d0ece3bab36bf75d31493513c827b56c4123bd23170e78"), looks := false }, kinds := [], alts := [], laidByText := true, laidKinds := [.data, .data], laidTests := true, laidLooks := .later }
def FcsFarCardSaid : Prop := Claim7.holds Tryd.pinned (.plain (OpenSpec.ofChange fcsFarSpec)) fcsFarCard

/-- THE TIED CARD OF 'tetherlaw02.FcsChecks'. -/
def fcsChecksCard : Claim7 := { stood := { row := fcsChecksRow, standIns := [], harness := (true, "8cc949b9d39f965b31d0ece3bab36bf75d31493513c827b56c4123bd23170e78"), looks := false }, kinds := [], alts := [], laidByText := true, laidKinds := [.data, .data], laidTests := true, laidLooks := .later }
def FcsChecksCardSaid : Prop := Claim7.holds Tryd.pinned (.plain (OpenSpec.ofChange fcsChecksSpec)) fcsChecksCard

/-- THE TIED CARD OF 'tetherlaw02.FcsGood'. -/
def fcsGoodCard : Claim7 := { stood := { row := fcsGoodRow, standIns := [], harness := (true, "8cc949b9d39f965b31d0ece3bab36bf75d31493513c827b56c4123bd23170e78"), looks := false }, kinds := [], alts := [], laidByText := true, laidKinds := [.data, .data], laidTests := true, laidLooks := .later }
def FcsGoodCardSaid : Prop := Claim7.holds Tryd.pinned (.plain (OpenSpec.ofChange fcsGoodSpec)) fcsGoodCard

/-- THE SECOND FORM's CARD OF 'tetherlaw01.OctetDigits'. -/
def octetDigitsUptoCard : Claim7 := { stood := { row := octetDigitsUptoRow, standIns := [], harness := (true, "8cc949b9d39f965b31d0ece3bab36bf75d31493513c827b56c4123bd23170e78"), looks := false }, kinds := [], alts := [], laidByText := true, laidKinds := [.data], laidTests := true, laidLooks := .later }
def OctetDigitsUptoCardSaid : Prop := Claim7.holds Tryd.pinned (.plain (OpenSpec.upto octetDigitsSpec)) octetDigitsUptoCard

/-- THE SECOND FORM's CARD OF 'tetherlaw02.FcsSums'. -/
def fcsSumsUptoCard : Claim7 := { stood := { row := fcsSumsUptoRow, standIns := [], harness := (true, "8cc949b9d39f965b31d0ece3bab36bf75d31493513c827b56c4123bd23170e78"), looks := false }, kinds := [], alts := [], laidByText := true, laidKinds := [.data, .data], laidTests := true, laidLooks := .later }
def FcsSumsUptoCardSaid : Prop := Claim7.holds Tryd.pinned (.plain (OpenSpec.upto fcsSumsSpec)) fcsSumsUptoCard

/-- THE SECOND FORM's CARD OF 'tetherlaw02.FcsCuts'. -/
def fcsCutsUptoCard : Claim7 := { stood := { row := fcsCutsUptoRow, standIns := [], harness := (true, "8cc949b9d39f965b31d0ece3bab36bf75d31493513c827b56c4123bd23170e78"), looks := false }, kinds := [], alts := [], laidByText := true, laidKinds := [.data, .data], laidTests := true, laidLooks := .later }
def FcsCutsUptoCardSaid : Prop := Claim7.holds Tryd.pinned (.plain (OpenSpec.upto fcsCutsSpec)) fcsCutsUptoCard

/-- THE SECOND FORM's CARD OF 'tetherlaw02.FcsJoins'. -/
def fcsJoinsUptoCard : Claim7 := { stood := { row := fcsJoinsUptoRow, standIns := [], harness := (true, "8cc949b9d39f965b31d0ece3bab36bf75d31493513c827b56c4123bd23170e78"), looks := false }, kinds := [], alts := [], laidByText := true, laidKinds := [.data, .data], laidTests := true, laidLooks := .later }
def FcsJoinsUptoCardSaid : Prop := Claim7.holds Tryd.pinned (.plain (OpenSpec.upto fcsJoinsSpec)) fcsJoinsUptoCard

/-- THE SECOND FORM's CARD OF 'tetherlaw02.FcsFar'. -/
def fcsFarUptoCard : Claim7 := { stood := { row := fcsFarUptoRow, standIns := [], harness := (true, "8cc949b9d39f965b31d0ece3bab36bf75d31493513c827b56c4123bd23170e78"), looks := false }, kinds := [], alts := [], laidByText := true, laidKinds := [.data, .data], laidTests := true, laidLooks := .later }
def FcsFarUptoCardSaid : Prop := Claim7.holds Tryd.pinned (.plain (OpenSpec.upto fcsFarSpec)) fcsFarUptoCard

/-- THE SECOND FORM's CARD OF 'tetherlaw02.FcsChecks'. -/
def fcsChecksUptoCard : Claim7 := { stood := { row := fcsChecksUptoRow, standIns := [], harness := (true, "8cc949b9d39f965b31d0ece3bab36bf75d31493513c827b56c4123bd23170e78"), looks := false }, kinds := [], alts := [], laidByText := true, laidKinds := [.data, .data], laidTests := true, laidLooks := .later }
def FcsChecksUptoCardSaid : Prop := Claim7.holds Tryd.pinned (.plain (OpenSpec.upto fcsChecksSpec)) fcsChecksUptoCard

/-- THE SECOND FORM's CARD OF 'tetherlaw02.FcsGood'. -/
def fcsGoodUptoCard : Claim7 := { stood := { row := fcsGoodUptoRow, standIns := [], harness := (true, "8cc949b9d39f965b31d0ece3bab36bf75d31493513c827b56c4123bd23170e78"), looks := false }, kinds := [], alts := [], laidByText := true, laidKinds := [.data, .data], laidTests := true, laidLooks := .later }
def FcsGoodUptoCardSaid : Prop := Claim7.holds Tryd.pinned (.plain (OpenSpec.upto fcsGoodSpec)) fcsGoodUptoCard
end Rows
end Go.Proofs.YtamcoppfjmggcaaDoor
