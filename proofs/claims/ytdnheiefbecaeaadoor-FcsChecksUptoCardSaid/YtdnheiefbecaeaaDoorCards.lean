/-
  DERIVED. GIVEN WITH THE SEED: THE CARDS: each row of YtdnheiefbecaeaaDoorRows.lean that lists a variable, with what it lists TIED to the program's text (the seventh form; the later family's looks); each row that meets fmt, with fmt's text TOLD by the authors' own Lean function (tested against real Go, not proved from fmt's source: count such statements apart). THE CARD IS WHAT COUNTS. Prove the row's statement (the work); the ties are given (YtdnheiefbecaeaaDoorTie.lean); close each card by the builder's one call (the guide's Derived/Test/ToyasCard.lean, 'card_holds'). Laid BY PROGRAM, IN A SANDBOX (cutbox-door.mjs). By AI agents, Wed Nov 11 2026. No macro, syntax, notation, axiom, sorry.
-/
import Derived.Test.YtdnheiefbecaeaaDoorRows
import GoSem.ClaimSeven
namespace Go.Proofs.YtdnheiefbecaeaaDoor
namespace Rows

/-- THE TIED CARD OF 'tetherlaw01.OctetDigits'. -/
def octetDigitsCard : Claim7 := { stood := { row := octetDigitsRow, standIns := [], harness := (true, "f7ef6f81db8147eed028e02dadb5e9728abb614692ffe6fd0dbb740070eeef6a"), looks := false }, kinds := [], alts := [], laidByText := true, laidKinds := [.data], laidTests := true, laidLooks := .later }
def OctetDigitsCardSaid : Prop := Claim7.holds Tryd.pinned (.plain (OpenSpec.ofChange octetDigitsSpec)) octetDigitsCard

/-- THE TIED CARD OF 'tetherlaw02.FcsChecks'. -/
def fcsChecksCard : Claim7 := { stood := { row := fcsChecksRow, standIns := [], harness := (true, "f7ef6f81db8147eed028e02dadb5e9728abb614692ffe6fd0dbb740070eeef6a"), looks := false }, kinds := [], alts := [], laidByText := true, laidKinds := [.data, .data], laidTests := true, laidLooks := .later }
def FcsChecksCardSaid : Prop := Claim7.holds Tryd.pinned (.plain (OpenSpec.ofChange fcsChecksSpec)) fcsChecksCard

/-- THE TIED CARD OF 'tetherlaw02.FcsBursts'. -/
def fcsBurstsCard : Claim7 := { stood := { row := fcsBurstsRow, standIns := [], harness := (true, "f7ef6f81db8147eed028e02dadb5e9728abb614692ffe6fd0dbb740070eeef6a"), looks := false }, kinds := [], alts := [], laidByText := true, laidKinds := [.data, .data], laidTests := true, laidLooks := .later }
def FcsBurstsCardSaid : Prop := Claim7.holds Tryd.pinned (.plain (OpenSpec.ofChange fcsBurstsSpec)) fcsBurstsCard

/-- THE TIED CARD OF 'tetherlaw02.FcsLinear'. -/
def fcsLinearCard : Claim7 := { stood := { row := fcsLinearRow, standIns := [], harness := (true, "f7ef6f81db8147eed028e02dadb5e9728abb614692ffe6fd0dbb740070eeef6a"), looks := false }, kinds := [], alts := [], laidByText := true, laidKinds := [.data, .data], laidTests := true, laidLooks := .later }
def FcsLinearCardSaid : Prop := Claim7.holds Tryd.pinned (.plain (OpenSpec.ofChange fcsLinearSpec)) fcsLinearCard

/-- THE TIED CARD OF 'tetherlaw03.HdlcWrites'. -/
def hdlcWritesCard : Claim7 := { stood := { row := hdlcWritesRow, standIns := [], harness := (true, "f7ef6f81db8147eed028e02dadb5e9728abb614692ffe6fd0dbb740070eeef6a"), looks := false }, kinds := [], alts := [], laidByText := true, laidKinds := [.data], laidTests := true, laidLooks := .later }
def HdlcWritesCardSaid : Prop := Claim7.holds Tryd.pinned (.plain (OpenSpec.ofChange hdlcWritesSpec)) hdlcWritesCard

/-- THE TIED CARD OF 'tetherlaw03.HdlcParses'. -/
def hdlcParsesCard : Claim7 := { stood := { row := hdlcParsesRow, standIns := [], harness := (true, "f7ef6f81db8147eed028e02dadb5e9728abb614692ffe6fd0dbb740070eeef6a"), looks := false }, kinds := [], alts := [], laidByText := true, laidKinds := [.data], laidTests := true, laidLooks := .later }
def HdlcParsesCardSaid : Prop := Claim7.holds Tryd.pinned (.plain (OpenSpec.ofChange hdlcParsesSpec)) hdlcParsesCard

/-- THE TIED CARD OF 'tetherlaw03.HdlcTakes'. -/
def hdlcTakesCard : Claim7 := { stood := { row := hdlcTakesRow, standIns := [], harness := (true, "f7ef6f81db8147eed028e02dadb5e9728abb614692ffe6fd0dbb740070eeef6a"), looks := false }, kinds := [], alts := [], laidByText := true, laidKinds := [.data], laidTests := true, laidLooks := .later }
def HdlcTakesCardSaid : Prop := Claim7.holds Tryd.pinned (.plain (OpenSpec.ofChange hdlcTakesSpec)) hdlcTakesCard

/-- THE TIED CARD OF 'tetherlaw03.HdlcEach'. -/
def hdlcEachCard : Claim7 := { stood := { row := hdlcEachRow, standIns := [], harness := (true, "f7ef6f81db8147eed028e02dadb5e9728abb614692ffe6fd0dbb740070eeef6a"), looks := false }, kinds := [], alts := [], laidByText := true, laidKinds := [.data], laidTests := true, laidLooks := .later }
def HdlcEachCardSaid : Prop := Claim7.holds Tryd.pinned (.plain (OpenSpec.ofChange hdlcEachSpec)) hdlcEachCard

/-- THE TIED CARD OF 'tetherlaw03.HdlcNoise'. -/
def hdlcNoiseCard : Claim7 := { stood := { row := hdlcNoiseRow, standIns := [], harness := (true, "f7ef6f81db8147eed028e02dadb5e9728abb614692ffe6fd0dbb740070eeef6a"), looks := false }, kinds := [], alts := [], laidByText := true, laidKinds := [.data], laidTests := true, laidLooks := .later }
def HdlcNoiseCardSaid : Prop := Claim7.holds Tryd.pinned (.plain (OpenSpec.ofChange hdlcNoiseSpec)) hdlcNoiseCard

/-- THE TIED CARD OF 'tetherlaw03.HdlcTold'. -/
def hdlcToldCard : Claim7 := { stood := { row := hdlcToldRow, standIns := [], harness := (true, "f7ef6f81db8147eed028e02dadb5e9728abb614692ffe6fd0dbb740070eeef6a"), looks := false }, kinds := [], alts := [], laidByText := true, laidKinds := [.data], laidTests := true, laidLooks := .later }
def HdlcToldCardSaid : Prop := Claim7.holds Tryd.pinned (.plain (OpenSpec.ofChange hdlcToldSpec)) hdlcToldCard

/-- THE TIED CARD OF 'tetherlaw03.HdlcNil'. -/
def hdlcNilCard : Claim7 := { stood := { row := hdlcNilRow, standIns := [], harness := (true, "f7ef6f81db8147eed028e02dadb5e9728abb614692ffe6fd0dbb740070eeef6a"), looks := false }, kinds := [], alts := [], laidByText := true, laidKinds := [.data], laidTests := true, laidLooks := .later }
def HdlcNilCardSaid : Prop := Claim7.holds Tryd.pinned (.plain (OpenSpec.ofChange hdlcNilSpec)) hdlcNilCard

/-- THE SECOND FORM's CARD OF 'tetherlaw01.OctetDigits'. -/
def octetDigitsUptoCard : Claim7 := { stood := { row := octetDigitsUptoRow, standIns := [], harness := (true, "f7ef6f81db8147eed028e02dadb5e9728abb614692ffe6fd0dbb740070eeef6a"), looks := false }, kinds := [], alts := [], laidByText := true, laidKinds := [.data], laidTests := true, laidLooks := .later }
def OctetDigitsUptoCardSaid : Prop := Claim7.holds Tryd.pinned (.plain (OpenSpec.upto octetDigitsSpec)) octetDigitsUptoCard

/-- THE SECOND FORM's CARD OF 'tetherlaw02.FcsChecks'. -/
def fcsChecksUptoCard : Claim7 := { stood := { row := fcsChecksUptoRow, standIns := [], harness := (true, "f7ef6f81db8147eed028e02dadb5e9728abb614692ffe6fd0dbb740070eeef6a"), looks := false }, kinds := [], alts := [], laidByText := true, laidKinds := [.data, .data], laidTests := true, laidLooks := .later }
def FcsChecksUptoCardSaid : Prop := Claim7.holds Tryd.pinned (.plain (OpenSpec.upto fcsChecksSpec)) fcsChecksUptoCard

/-- THE SECOND FORM's CARD OF 'tetherlaw02.FcsBursts'. -/
def fcsBurstsUptoCard : Claim7 := { stood := { row := fcsBurstsUptoRow, standIns := [], harness := (true, "f7ef6f81db8147eed028e02dadb5e9728abb614692ffe6fd0dbb740070eeef6a"), looks := false }, kinds := [], alts := [], laidByText := true, laidKinds := [.data, .data], laidTests := true, laidLooks := .later }
def FcsBurstsUptoCardSaid : Prop := Claim7.holds Tryd.pinned (.plain (OpenSpec.upto fcsBurstsSpec)) fcsBurstsUptoCard

/-- THE SECOND FORM's CARD OF 'tetherlaw02.FcsLinear'. -/
def fcsLinearUptoCard : Claim7 := { stood := { row := fcsLinearUptoRow, standIns := [], harness := (true, "f7ef6f81db8147eed028e02dadb5e9728abb614692ffe6fd0dbb740070eeef6a"), looks := false }, kinds := [], alts := [], laidByText := true, laidKinds := [.data, .data], laidTests := true, laidLooks := .later }
def FcsLinearUptoCardSaid : Prop := Claim7.holds Tryd.pinned (.plain (OpenSpec.upto fcsLinearSpec)) fcsLinearUptoCard

/-- THE SECOND FORM's CARD OF 'tetherlaw03.HdlcWrites'. -/
def hdlcWritesUptoCard : Claim7 := { stood := { row := hdlcWritesUptoRow, standIns := [], harness := (true, "f7ef6f81db8147eed028e02dadb5e9728abb614692ffe6fd0dbb740070eeef6a"), looks := false }, kinds := [], alts := [], laidByText := true, laidKinds := [.data], laidTests := true, laidLooks := .later }
def HdlcWritesUptoCardSaid : Prop := Claim7.holds Tryd.pinned (.plain (OpenSpec.upto hdlcWritesSpec)) hdlcWritesUptoCard

/-- THE SECOND FORM's CARD OF 'tetherlaw03.HdlcParses'. -/
def hdlcParsesUptoCard : Claim7 := { stood := { row := hdlcParsesUptoRow, standIns := [], harness := (true, "f7ef6f81db8147eed028e02dadb5e9728abb614692ffe6fd0dbb740070eeef6a"), looks := false }, kinds := [], alts := [], laidByText := true, laidKinds := [.data], laidTests := true, laidLooks := .later }
def HdlcParsesUptoCardSaid : Prop := Claim7.holds Tryd.pinned (.plain (OpenSpec.upto hdlcParsesSpec)) hdlcParsesUptoCard

/-- THE SECOND FORM's CARD OF 'tetherlaw03.HdlcTakes'. -/
def hdlcTakesUptoCard : Claim7 := { stood := { row := hdlcTakesUptoRow, standIns := [], harness := (true, "f7ef6f81db8147eed028e02dadb5e9728abb614692ffe6fd0dbb740070eeef6a"), looks := false }, kinds := [], alts := [], laidByText := true, laidKinds := [.data], laidTests := true, laidLooks := .later }
def HdlcTakesUptoCardSaid : Prop := Claim7.holds Tryd.pinned (.plain (OpenSpec.upto hdlcTakesSpec)) hdlcTakesUptoCard

/-- THE SECOND FORM's CARD OF 'tetherlaw03.HdlcEach'. -/
def hdlcEachUptoCard : Claim7 := { stood := { row := hdlcEachUptoRow, standIns := [], harness := (true, "f7ef6f81db8147eed028e02dadb5e9728abb614692ffe6fd0dbb740070eeef6a"), looks := false }, kinds := [], alts := [], laidByText := true, laidKinds := [.data], laidTests := true, laidLooks := .later }
def HdlcEachUptoCardSaid : Prop := Claim7.holds Tryd.pinned (.plain (OpenSpec.upto hdlcEachSpec)) hdlcEachUptoCard

/-- THE SECOND FORM's CARD OF 'tetherlaw03.HdlcNoise'. -/
def hdlcNoiseUptoCard : Claim7 := { stood := { row := hdlcNoiseUptoRow, standIns := [], harness := (true, "f7ef6f81db8147eed028e02dadb5e9728abb614692ffe6fd0dbb740070eeef6a"), looks := false }, kinds := [], alts := [], laidByText := true, laidKinds := [.data], laidTests := true, laidLooks := .later }
def HdlcNoiseUptoCardSaid : Prop := Claim7.holds Tryd.pinned (.plain (OpenSpec.upto hdlcNoiseSpec)) hdlcNoiseUptoCard

/-- THE SECOND FORM's CARD OF 'tetherlaw03.HdlcTold'. -/
def hdlcToldUptoCard : Claim7 := { stood := { row := hdlcToldUptoRow, standIns := [], harness := (true, "f7ef6f81db8147eed028e02dadb5e9728abb614692ffe6fd0dbb740070eeef6a"), looks := false }, kinds := [], alts := [], laidByText := true, laidKinds := [.data], laidTests := true, laidLooks := .later }
def HdlcToldUptoCardSaid : Prop := Claim7.holds Tryd.pinned (.plain (OpenSpec.upto hdlcToldSpec)) hdlcToldUptoCard

/-- THE SECOND FORM's CARD OF 'tetherlaw03.HdlcNil'. -/
def hdlcNilUptoCard : Claim7 := { stood := { row := hdlcNilUptoRow, standIns := [], harness := (true, "f7ef6f81db8147eed028e02dadb5e9728abb614692ffe6fd0dbb740070eeef6a"), looks := false }, kinds := [], alts := [], laidByText := true, laidKinds := [.data], laidTests := true, laidLooks := .later }
def HdlcNilUptoCardSaid : Prop := Claim7.holds Tryd.pinned (.plain (OpenSpec.upto hdlcNilSpec)) hdlcNilUptoCard
end Rows
end Go.Proofs.YtdnheiefbecaeaaDoor
