/-
  DERIVED. GIVEN WITH THE SEED: THE CARDS: each row of YtpdmopfnllfomaaDoorRows.lean that lists a variable, with what it lists TIED to the program's text (the seventh form; the later family's looks); each row that meets fmt, with fmt's text TOLD by the authors' own Lean function (tested against real Go, not proved from fmt's source: count such statements apart). THE CARD IS WHAT COUNTS. Prove the row's statement (the work); the ties are given (YtpdmopfnllfomaaDoorTie.lean); close each card by the builder's one call (the guide's Derived/Test/ToyasCard.lean, 'card_holds'). Laid BY PROGRAM, IN A SANDBOX (cutbox-door.mjs). By AI agents, Wed Nov 11 2026. No macro, syntax, notation, axiom, sorry.
-/
import Derived.Test.YtpdmopfnllfomaaDoorRows
import GoSem.ClaimSeven
namespace Go.Proofs.YtpdmopfnllfomaaDoor
namespace Rows

/-- THE TIED CARD OF 'tetherlaw04.Md5Sums'. -/
def md5SumsCard : Claim7 := { stood := { row := md5SumsRow, standIns := [], harness := (true, "c1e63881a8dd956fefb32cbaaff8500be6f29a49338e91d05f3a6851b50ec66e"), looks := true }, kinds := [], alts := [], laidByText := true, laidKinds := [.data, .data], laidTests := true, laidLooks := .later }
def Md5SumsCardSaid : Prop := Claim7.holds Tryd.pinned (.plain (OpenSpec.ofChange md5SumsSpec)) md5SumsCard

/-- THE TIED CARD OF 'tetherlaw04.Md5Texts'. -/
def md5TextsCard : Claim7 := { stood := { row := md5TextsRow, standIns := [], harness := (true, "c1e63881a8dd956fefb32cbaaff8500be6f29a49338e91d05f3a6851b50ec66e"), looks := true }, kinds := [], alts := [], laidByText := true, laidKinds := [.data, .data, .data, .sentinel, .sentinel, .data, .data], laidTests := true, laidLooks := .later }
def Md5TextsCardSaid : Prop := Claim7.holds Tryd.pinned (.plain (OpenSpec.ofChange md5TextsSpec)) md5TextsCard

/-- THE TIED CARD OF 'tetherlaw04.Md5Responses'. -/
def md5ResponsesCard : Claim7 := { stood := { row := md5ResponsesRow, standIns := [], harness := (true, "c1e63881a8dd956fefb32cbaaff8500be6f29a49338e91d05f3a6851b50ec66e"), looks := true }, kinds := [], alts := [], laidByText := true, laidKinds := [.data, .data], laidTests := true, laidLooks := .later }
def Md5ResponsesCardSaid : Prop := Claim7.holds Tryd.pinned (.plain (OpenSpec.ofChange md5ResponsesSpec)) md5ResponsesCard

/-- THE TIED CARD OF 'tetherlaw04.Md5Streams'. -/
def md5StreamsCard : Claim7 := { stood := { row := md5StreamsRow, standIns := [], harness := (true, "c1e63881a8dd956fefb32cbaaff8500be6f29a49338e91d05f3a6851b50ec66e"), looks := true }, kinds := [], alts := [], laidByText := true, laidKinds := [.data, .data], laidTests := true, laidLooks := .later }
def Md5StreamsCardSaid : Prop := Claim7.holds Tryd.pinned (.plain (OpenSpec.ofChange md5StreamsSpec)) md5StreamsCard

/-- THE TIED CARD OF 'tetherlaw04.Md5Copies'. -/
def md5CopiesCard : Claim7 := { stood := { row := md5CopiesRow, standIns := [], harness := (true, "c1e63881a8dd956fefb32cbaaff8500be6f29a49338e91d05f3a6851b50ec66e"), looks := true }, kinds := [], alts := [], laidByText := true, laidKinds := [.data, .data], laidTests := true, laidLooks := .later }
def Md5CopiesCardSaid : Prop := Claim7.holds Tryd.pinned (.plain (OpenSpec.ofChange md5CopiesSpec)) md5CopiesCard

/-- THE TIED CARD OF 'tetherlaw04.Md5Nil'. -/
def md5NilCard : Claim7 := { stood := { row := md5NilRow, standIns := [], harness := (true, "c1e63881a8dd956fefb32cbaaff8500be6f29a49338e91d05f3a6851b50ec66e"), looks := true }, kinds := [], alts := [], laidByText := true, laidKinds := [.data, .data], laidTests := true, laidLooks := .later }
def Md5NilCardSaid : Prop := Claim7.holds Tryd.pinned (.plain (OpenSpec.ofChange md5NilSpec)) md5NilCard

/-- THE SECOND FORM's CARD OF 'tetherlaw04.Md5Sums'. -/
def md5SumsUptoCard : Claim7 := { stood := { row := md5SumsUptoRow, standIns := [], harness := (true, "c1e63881a8dd956fefb32cbaaff8500be6f29a49338e91d05f3a6851b50ec66e"), looks := true }, kinds := [], alts := [], laidByText := true, laidKinds := [.data, .data], laidTests := true, laidLooks := .later }
def Md5SumsUptoCardSaid : Prop := Claim7.holds Tryd.pinned (.plain (OpenSpec.upto md5SumsSpec)) md5SumsUptoCard

/-- THE SECOND FORM's CARD OF 'tetherlaw04.Md5Texts'. -/
def md5TextsUptoCard : Claim7 := { stood := { row := md5TextsUptoRow, standIns := [], harness := (true, "c1e63881a8dd956fefb32cbaaff8500be6f29a49338e91d05f3a6851b50ec66e"), looks := true }, kinds := [], alts := [], laidByText := true, laidKinds := [.data, .data, .data, .sentinel, .sentinel, .data, .data], laidTests := true, laidLooks := .later }
def Md5TextsUptoCardSaid : Prop := Claim7.holds Tryd.pinned (.plain (OpenSpec.upto md5TextsSpec)) md5TextsUptoCard

/-- THE SECOND FORM's CARD OF 'tetherlaw04.Md5Responses'. -/
def md5ResponsesUptoCard : Claim7 := { stood := { row := md5ResponsesUptoRow, standIns := [], harness := (true, "c1e63881a8dd956fefb32cbaaff8500be6f29a49338e91d05f3a6851b50ec66e"), looks := true }, kinds := [], alts := [], laidByText := true, laidKinds := [.data, .data], laidTests := true, laidLooks := .later }
def Md5ResponsesUptoCardSaid : Prop := Claim7.holds Tryd.pinned (.plain (OpenSpec.upto md5ResponsesSpec)) md5ResponsesUptoCard

/-- THE SECOND FORM's CARD OF 'tetherlaw04.Md5Streams'. -/
def md5StreamsUptoCard : Claim7 := { stood := { row := md5StreamsUptoRow, standIns := [], harness := (true, "c1e63881a8dd956fefb32cbaaff8500be6f29a49338e91d05f3a6851b50ec66e"), looks := true }, kinds := [], alts := [], laidByText := true, laidKinds := [.data, .data], laidTests := true, laidLooks := .later }
def Md5StreamsUptoCardSaid : Prop := Claim7.holds Tryd.pinned (.plain (OpenSpec.upto md5StreamsSpec)) md5StreamsUptoCard

/-- THE SECOND FORM's CARD OF 'tetherlaw04.Md5Copies'. -/
def md5CopiesUptoCard : Claim7 := { stood := { row := md5CopiesUptoRow, standIns := [], harness := (true, "c1e63881a8dd956fefb32cbaaff8500be6f29a49338e91d05f3a6851b50ec66e"), looks := true }, kinds := [], alts := [], laidByText := true, laidKinds := [.data, .data], laidTests := true, laidLooks := .later }
def Md5CopiesUptoCardSaid : Prop := Claim7.holds Tryd.pinned (.plain (OpenSpec.upto md5CopiesSpec)) md5CopiesUptoCard

/-- THE SECOND FORM's CARD OF 'tetherlaw04.Md5Nil'. -/
def md5NilUptoCard : Claim7 := { stood := { row := md5NilUptoRow, standIns := [], harness := (true, "c1e63881a8dd956fefb32cbaaff8500be6f29a49338e91d05f3a6851b50ec66e"), looks := true }, kinds := [], alts := [], laidByText := true, laidKinds := [.data, .data], laidTests := true, laidLooks := .later }
def Md5NilUptoCardSaid : Prop := Claim7.holds Tryd.pinned (.plain (OpenSpec.upto md5NilSpec)) md5NilUptoCard
end Rows
end Go.Proofs.YtpdmopfnllfomaaDoor
