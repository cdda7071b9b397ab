/-
  DERIVED. GIVEN WITH THE SEED: THE CARDS: each row of YtmdlpbgelgeiaaaDoorRows.lean that lists a variable, with what it lists TIED to the program's text (the seventh form; the later family's looks); each row that meets fmt, with fmt's text TOLD by the authors' own Lean function (tested against real Go, not proved from fmt's source: count such statements apart). THE CARD IS WHAT COUNTS. Prove the row's statement (the work); the ties are given (YtmdlpbgelgeiaaaDoorTie.lean); close each card by the builder's one call (the guide's Derived/Test/ToyasCard.lean, 'card_holds'). Laid BY PROGRAM, IN A SANDBOX (cutbox-door.mjs). By AI agents, Wed Nov 11 2026. No macro, syntax, notation, axiom, sorry.
-/
import Derived.Test.YtmdlpbgelgeiaaaDoorRows
import GoSem.ClaimSeven
namespace Go.Proofs.YtmdlpbgelgeiaaaDoor
namespace Rows

/-- THE TIED CARD OF 'tetherlaw03.HdlcWrites'. -/
def hdlcWritesCard : Claim7 := { stood := { row := hdlcWritesRow, standIns := [], harness := (true, "d8169d11d10c1acb49a4f3ffb230288e3306e0a1050ad532954cead956bbf376"), looks := false }, kinds := [], alts := [], laidByText := true, laidKinds := [.data], laidTests := true, laidLooks := .later }
def HdlcWritesCardSaid : Prop := Claim7.holds Tryd.pinned (.plain (OpenSpec.ofChange hdlcWritesSpec)) hdlcWritesCard

/-- THE TIED CARD OF 'tetherlaw03.HdlcParses'. -/
def hdlcParsesCard : Claim7 := { stood := { row := hdlcParsesRow, standIns := [], harness := (true, "d8169d11d10c1acb49a4f3ffb230288e3306e0a1050ad532954cead956bbf376"), looks := false }, kinds := [], alts := [], laidByText := true, laidKinds := [.data], laidTests := true, laidLooks := .later }
def HdlcParsesCardSaid : Prop := Claim7.holds Tryd.pinned (.plain (OpenSpec.ofChange hdlcParsesSpec)) hdlcParsesCard

/-- THE TIED CARD OF 'tetherlaw03.HdlcTakes'. -/
def hdlcTakesCard : Claim7 := { stood := { row := hdlcTakesRow, standIns := [], harness := (true, "d8169d11d10c1acb49a4f3ffb230288e3306e0a1050ad532954cead956bbf376"), looks := false }, kinds := [], alts := [], laidByText := true, laidKinds := [.data], laidTests := true, laidLooks := .later }
def HdlcTakesCardSaid : Prop := Claim7.holds Tryd.pinned (.plain (OpenSpec.ofChange hdlcTakesSpec)) hdlcTakesCard

/-- THE TIED CARD OF 'tetherlaw03.HdlcEach'. -/
def hdlcEachCard : Claim7 := { stood := { row := hdlcEachRow, standIns := [], harness := (true, "d8169d11d10c1acb49a4f3ffb230288e3306e0a1050ad532954cead956bbf376"), looks := false }, kinds := [], alts := [], laidByText := true, laidKinds := [.data], laidTests := true, laidLooks := .later }
def HdlcEachCardSaid : Prop := Claim7.holds Tryd.pinned (.plain (OpenSpec.ofChange hdlcEachSpec)) hdlcEachCard

/-- THE TIED CARD OF 'tetherlaw03.HdlcNoise'. -/
def hdlcNoiseCard : Claim7 := { stood := { row := hdlcNoiseRow, standIns := [], harness := (true, "d8169d11d10c1acb49a4f3ffb230288e3306e0a1050ad532954cead956bbf376"), looks := false }, kinds := [], alts := [], laidByText := true, laidKinds := [.data], laidTests := true, laidLooks := .later }
def HdlcNoiseCardSaid : Prop := Claim7.holds Tryd.pinned (.plain (OpenSpec.ofChange hdlcNoiseSpec)) hdlcNoiseCard

/-- THE TIED CARD OF 'tetherlaw03.HdlcTold'. -/
def hdlcToldCard : Claim7 := { stood := { row := hdlcToldRow, standIns := [], harness := (true, "d8169d11d10c1acb49a4f3ffb230288e3306e0a1050ad532954cead956bbf376"), looks := false }, kinds := [], alts := [], laidByText := true, laidKinds := [.data], laidTests := true, laidLooks := .later }
def HdlcToldCardSaid : Prop := Claim7.holds Tryd.pinned (.plain (OpenSpec.ofChange hdlcToldSpec)) hdlcToldCard

/-- THE TIED CARD OF 'tetherlaw03.HdlcNil'. -/
def hdlcNilCard : Claim7 := { stood := { row := hdlcNilRow, standIns := [], harness := (true, "d8169d11d10c1acb49a4f3ffb230288e3306e0a1050ad532954cead956bbf376"), looks := false }, kinds := [], alts := [], laidByText := true, laidKinds := [.data], laidTests := true, laidLooks := .later }
def HdlcNilCardSaid : Prop := Claim7.holds Tryd.pinned (.plain (OpenSpec.ofChange hdlcNilSpec)) hdlcNilCard

/-- THE SECOND FORM's CARD OF 'tetherlaw03.HdlcWrites'. -/
def hdlcWritesUptoCard : Claim7 := { stood := { row := hdlcWritesUptoRow, standIns := [], harness := (true, "d8169d11d10c1acb49a4f3ffb230288e3306e0a1050ad532954cead956bbf376"), looks := false }, kinds := [], alts := [], laidByText := true, laidKinds := [.data], laidTests := true, laidLooks := .later }
def HdlcWritesUptoCardSaid : Prop := Claim7.holds Tryd.pinned (.plain (OpenSpec.upto hdlcWritesSpec)) hdlcWritesUptoCard

/-- THE SECOND FORM's CARD OF 'tetherlaw03.HdlcParses'. -/
def hdlcParsesUptoCard : Claim7 := { stood := { row := hdlcParsesUptoRow, standIns := [], harness := (true, "d8169d11d10c1acb49a4f3ffb230288e3306e0a1050ad532954cead956bbf376"), looks := false }, kinds := [], alts := [], laidByText := true, laidKinds := [.data], laidTests := true, laidLooks := .later }
def HdlcParsesUptoCardSaid : Prop := Claim7.holds Tryd.pinned (.plain (OpenSpec.upto hdlcParsesSpec)) hdlcParsesUptoCard

/-- THE SECOND FORM's CARD OF 'tetherlaw03.HdlcTakes'. -/
def hdlcTakesUptoCard : Claim7 := { stood := { row := hdlcTakesUptoRow, standIns := [], harness := (true, "d8169d11d10c1acb49a4f3ffb230288e3306e0a1050ad532954cead956bbf376"), looks := false }, kinds := [], alts := [], laidByText := true, laidKinds := [.data], laidTests := true, laidLooks := .later }
def HdlcTakesUptoCardSaid : Prop := Claim7.holds Tryd.pinned (.plain (OpenSpec.upto hdlcTakesSpec)) hdlcTakesUptoCard

/-- THE SECOND FORM's CARD OF 'tetherlaw03.HdlcEach'. -/
def hdlcEachUptoCard : Claim7 := { stood := { row := hdlcEachUptoRow, standIns := [], harness := (true, "d8169d11d10c1acb49a4f3ffb230288e3306e0a1050ad532954cead956bbf376"), looks := false }, kinds := [], alts := [], laidByText := true, laidKinds := [.data], laidTests := true, laidLooks := .later }
def HdlcEachUptoCardSaid : Prop := Claim7.holds Tryd.pinned (.plain (OpenSpec.upto hdlcEachSpec)) hdlcEachUptoCard

/-- THE SECOND FORM's CARD OF 'tetherlaw03.HdlcNoise'. -/
def hdlcNoiseUptoCard : Claim7 := { stood := { row := hdlcNoiseUptoRow, standIns := [], harness := (true, "d8169d11d10c1acb49a4f3ffb230288e3306e0a1050ad532954cead956bbf376"), looks := false }, kinds := [], alts := [], laidByText := true, laidKinds := [.data], laidTests := true, laidLooks := .later }
def HdlcNoiseUptoCardSaid : Prop := Claim7.holds Tryd.pinned (.plain (OpenSpec.upto hdlcNoiseSpec)) hdlcNoiseUptoCard

/-- THE SECOND FORM's CARD OF 'tetherlaw03.HdlcTold'. -/
def hdlcToldUptoCard : Claim7 := { stood := { row := hdlcToldUptoRow, standIns := [], harness := (true, "d8169d11d10c1acb49a4f3ffb230288e3306e0a1050ad532954cead956bbf376"), looks := false }, kinds := [], alts := [], laidByText := true, laidKinds := [.data], laidTests := true, laidLooks := .later }
def HdlcToldUptoCardSaid : Prop := Claim7.holds Tryd.pinned (.plain (OpenSpec.upto hdlcToldSpec)) hdlcToldUptoCard

/-- THE SECOND FORM's CARD OF 'tetherlaw03.HdlcNil'. -/
def hdlcNilUptoCard : Claim7 := { stood := { row := hdlcNilUptoRow, standIns := [], harness := (true, "d8169d11d10c1acb49a4f3ffb230288e3306e0a1050ad532954cead956bbf376"), looks := false }, kinds := [], alts := [], laidByText := true, laidKinds := [.data], laidTests := true, laidLooks := .later }
def HdlcNilUptoCardSaid : Prop := Claim7.holds Tryd.pinned (.plain (OpenSpec.upto hdlcNilSpec)) hdlcNilUptoCard
end Rows
end Go.Proofs.YtmdlpbgelgeiaaaDoor
