/-
  DERIVED. GIVEN WITH THE SEED: THE CARDS: each row of YtnlhjlmjbmaipaaDoorRows.lean that lists a variable, with what it lists TIED to the program's text (the seventh form; the later family's looks); each row that meets fmt, with fmt's text TOLD by the authors' own Lean function (tested against real Go, not proved from fmt's source: count such statements apart). THE CARD IS WHAT COUNTS. Prove the row's statement (the work); the ties are given (YtnlhjlmjbmaipaaDoorTie.lean); close each card by the builder's one call (the guide's Derived/Test/ToyasCard.lean, 'card_holds'). Laid BY PROGRAM, IN A SANDBOX (cutbox-door.mjs). By AI agents, Wed Nov 11 2026. No macro, syntax, notation, axiom, sorry.
-/
import Derived.Test.YtnlhjlmjbmaipaaDoorRows
import GoSem.ClaimSeven
namespace Go.Proofs.YtnlhjlmjbmaipaaDoor
namespace Rows

/-- THE TIED CARD OF 'tetherlaw04.Md5Streams'. -/
def md5StreamsCard : Claim7 := { stood := { row := md5StreamsRow, standIns := [], harness := (true, "2c7c3221270127bc3de03fc88188d8e60a5b27f8bef826dfe95853556ad3c20e"), looks := false }, kinds := [], alts := [], laidByText := true, laidKinds := [.data, .data], laidTests := true, laidLooks := .later }
def Md5StreamsCardSaid : Prop := Claim7.holds Tryd.pinned (.plain (OpenSpec.ofChange md5StreamsSpec)) md5StreamsCard

/-- THE TIED CARD OF 'tetherlaw04.Md5Copies'. -/
def md5CopiesCard : Claim7 := { stood := { row := md5CopiesRow, standIns := [], harness := (true, "2c7c3221270127bc3de03fc88188d8e60a5b27f8bef826dfe95853556ad3c20e"), looks := false }, kinds := [], alts := [], laidByText := true, laidKinds := [.data, .data], laidTests := true, laidLooks := .later }
def Md5CopiesCardSaid : Prop := Claim7.holds Tryd.pinned (.plain (OpenSpec.ofChange md5CopiesSpec)) md5CopiesCard

/-- THE SECOND FORM's CARD OF 'tetherlaw04.Md5Streams'. -/
def md5StreamsUptoCard : Claim7 := { stood := { row := md5StreamsUptoRow, standIns := [], harness := (true, "2c7c3221270127bc3de03fc88188d8e60a5b27f8bef826dfe95853556ad3c20e"), looks := false }, kinds := [], alts := [], laidByText := true, laidKinds := [.data, .data], laidTests := true, laidLooks := .later }
def Md5StreamsUptoCardSaid : Prop := Claim7.holds Tryd.pinned (.plain (OpenSpec.upto md5StreamsSpec)) md5StreamsUptoCard

/-- THE SECOND FORM's CARD OF 'tetherlaw04.Md5Copies'. -/
def md5CopiesUptoCard : Claim7 := { stood := { row := md5CopiesUptoRow, standIns := [], harness := (true, "2c7c3221270127bc3de03fc88188d8e60a5b27f8bef826dfe95853556ad3c20e"), looks := false }, kinds := [], alts := [], laidByText := true, laidKinds := [.data, .data], laidTests := true, laidLooks := .later }
def Md5CopiesUptoCardSaid : Prop := Claim7.holds Tryd.pinned (.plain (OpenSpec.upto md5CopiesSpec)) md5CopiesUptoCard
end Rows
end Go.Proofs.YtnlhjlmjbmaipaaDoor
