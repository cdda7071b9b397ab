/-
  DERIVED. GIVEN WITH THE SEED: THE CARDS: each row of YtdijgmijnoiliaaDoorRows.lean that lists a variable, with what it lists TIED to the program's text (the seventh form; the later family's looks); each row that meets fmt, with fmt's text TOLD by the authors' own Lean function (tested against real Go, not proved from fmt's source: count such statements apart). THE CARD IS WHAT COUNTS. Prove the row's statement (the work); the ties are given (YtdijgmijnoiliaaDoorTie.lean); close each card by the builder's one call (the guide's Derived/Test/ToyasCard.lean, 'card_holds'). Laid BY PROGRAM, IN A SANDBOX (cutbox-door.mjs). By AI agents, Wed Nov 11 2026. No macro, syntax, notation, axiom, sorry.
-/
import Derived.Test.YtdijgmijnoiliaaDoorRows
import GoSem.ClaimSeven
namespace Go.Proofs.YtdijgmijnoiliaaDoor
namespace Rows

/-- THE TIED CARD OF 'tetherlaw13.ChapPackets'. -/
def chapPacketsCard : Claim7 := { stood := { row := chapPacketsRow, standIns := [], harness := (true, "7a1bee41c867658f11fb6fd1e29aa51b9ec80a77a3b5d09116c9113038511850"), looks := true }, kinds := [], alts := [], laidByText := true, laidKinds := [.data, .data], laidTests := true, laidLooks := .later }
def ChapPacketsCardSaid : Prop := Claim7.holds Tryd.pinned (.plain (OpenSpec.ofChange chapPacketsSpec)) chapPacketsCard

/-- THE TIED CARD OF 'tetherlaw13.ChapAnswers'. -/
def chapAnswersCard : Claim7 := { stood := { row := chapAnswersRow, standIns := [], harness := (true, "7a1bee41c867658f11fb6fd1e29aa51b9ec80a77a3b5d09116c9113038511850"), looks := true }, kinds := [], alts := [], laidByText := true, laidKinds := [.data, .data], laidTests := true, laidLooks := .later }
def ChapAnswersCardSaid : Prop := Claim7.holds Tryd.pinned (.plain (OpenSpec.ofChange chapAnswersSpec)) chapAnswersCard

/-- THE TIED CARD OF 'tetherlaw13.ChapHolds'. -/
def chapHoldsCard : Claim7 := { stood := { row := chapHoldsRow, standIns := [], harness := (true, "7a1bee41c867658f11fb6fd1e29aa51b9ec80a77a3b5d09116c9113038511850"), looks := true }, kinds := [], alts := [], laidByText := true, laidKinds := [.data, .data], laidTests := true, laidLooks := .later }
def ChapHoldsCardSaid : Prop := Claim7.holds Tryd.pinned (.plain (OpenSpec.ofChange chapHoldsSpec)) chapHoldsCard

/-- THE TIED CARD OF 'tetherlaw13.ChapNil'. -/
def chapNilCard : Claim7 := { stood := { row := chapNilRow, standIns := [], harness := (true, "7a1bee41c867658f11fb6fd1e29aa51b9ec80a77a3b5d09116c9113038511850"), looks := true }, kinds := [], alts := [], laidByText := true, laidKinds := [.data, .data], laidTests := true, laidLooks := .later }
def ChapNilCardSaid : Prop := Claim7.holds Tryd.pinned (.plain (OpenSpec.ofChange chapNilSpec)) chapNilCard

/-- THE SECOND FORM's CARD OF 'tetherlaw13.ChapPackets'. -/
def chapPacketsUptoCard : Claim7 := { stood := { row := chapPacketsUptoRow, standIns := [], harness := (true, "7a1bee41c867658f11fb6fd1e29aa51b9ec80a77a3b5d09116c9113038511850"), looks := true }, kinds := [], alts := [], laidByText := true, laidKinds := [.data, .data], laidTests := true, laidLooks := .later }
def ChapPacketsUptoCardSaid : Prop := Claim7.holds Tryd.pinned (.plain (OpenSpec.upto chapPacketsSpec)) chapPacketsUptoCard

/-- THE SECOND FORM's CARD OF 'tetherlaw13.ChapAnswers'. -/
def chapAnswersUptoCard : Claim7 := { stood := { row := chapAnswersUptoRow, standIns := [], harness := (true, "7a1bee41c867658f11fb6fd1e29aa51b9ec80a77a3b5d09116c9113038511850"), looks := true }, kinds := [], alts := [], laidByText := true, laidKinds := [.data, .data], laidTests := true, laidLooks := .later }
def ChapAnswersUptoCardSaid : Prop := Claim7.holds Tryd.pinned (.plain (OpenSpec.upto chapAnswersSpec)) chapAnswersUptoCard

/-- THE SECOND FORM's CARD OF 'tetherlaw13.ChapHolds'. -/
def chapHoldsUptoCard : Claim7 := { stood := { row := chapHoldsUptoRow, standIns := [], harness := (true, "7a1bee41c867658f11fb6fd1e29aa51b9ec80a77a3b5d09116c9113038511850"), looks := true }, kinds := [], alts := [], laidByText := true, laidKinds := [.data, .data], laidTests := true, laidLooks := .later }
def ChapHoldsUptoCardSaid : Prop := Claim7.holds Tryd.pinned (.plain (OpenSpec.upto chapHoldsSpec)) chapHoldsUptoCard

/-- THE SECOND FORM's CARD OF 'tetherlaw13.ChapNil'. -/
def chapNilUptoCard : Claim7 := { stood := { row := chapNilUptoRow, standIns := [], harness := (true, "7a1bee41c867658f11fb6fd1e29aa51b9ec80a77a3b5d09116c9113038511850"), looks := true }, kinds := [], alts := [], laidByText := true, laidKinds := [.data, .data], laidTests := true, laidLooks := .later }
def ChapNilUptoCardSaid : Prop := Claim7.holds Tryd.pinned (.plain (OpenSpec.upto chapNilSpec)) chapNilUptoCard
end Rows
end Go.Proofs.YtdijgmijnoiliaaDoor
