/-
  DERIVED. GIVEN WITH THE SEED: THE CARDS: each row of YtjimoegegigoiaaDoorRows.lean that lists a variable, with what it lists TIED to the program's text (the seventh form; the later family's looks); each row that meets fmt, with fmt's text TOLD by the authors' own Lean function (tested against real Go, not proved from fmt's source: count such statements apart). THE CARD IS WHAT COUNTS. Prove the row's statement (the work); the ties are given (YtjimoegegigoiaaDoorTie.lean); close each card by the builder's one call (the guide's Derived/Test/ToyasCard.lean, 'card_holds'). Laid BY PROGRAM, IN A SANDBOX (cutbox-door.mjs). By AI agents, Wed Nov 11 2026. No macro, syntax, notation, axiom, sorry.
-/
import Derived.Test.YtjimoegegigoiaaDoorRows
import GoSem.ClaimSeven
namespace Go.Proofs.YtjimoegegigoiaaDoor
namespace Rows

/-- THE TIED CARD OF 'tetherlaw14.EapMessages'. -/
def eapMessagesCard : Claim7 := { stood := { row := eapMessagesRow, standIns := [], harness := (true, "e6ac2857177bb7abdfa9d932f46e00ca3671de593eee567659e2902f089b4525"), looks := true }, kinds := [], alts := [], laidByText := true, laidKinds := [.data, .data], laidTests := true, laidLooks := .later }
def EapMessagesCardSaid : Prop := Claim7.holds Tryd.pinned (.plain (OpenSpec.ofChange eapMessagesSpec)) eapMessagesCard

/-- THE TIED CARD OF 'tetherlaw14.EapProves'. -/
def eapProvesCard : Claim7 := { stood := { row := eapProvesRow, standIns := [], harness := (true, "e6ac2857177bb7abdfa9d932f46e00ca3671de593eee567659e2902f089b4525"), looks := true }, kinds := [], alts := [], laidByText := true, laidKinds := [.data, .data], laidTests := true, laidLooks := .later }
def EapProvesCardSaid : Prop := Claim7.holds Tryd.pinned (.plain (OpenSpec.ofChange eapProvesSpec)) eapProvesCard

/-- THE TIED CARD OF 'tetherlaw14.EapMeet'. -/
def eapMeetCard : Claim7 := { stood := { row := eapMeetRow, standIns := [], harness := (true, "e6ac2857177bb7abdfa9d932f46e00ca3671de593eee567659e2902f089b4525"), looks := true }, kinds := [], alts := [], laidByText := true, laidKinds := [.data, .data], laidTests := true, laidLooks := .later }
def EapMeetCardSaid : Prop := Claim7.holds Tryd.pinned (.plain (OpenSpec.ofChange eapMeetSpec)) eapMeetCard

/-- THE TIED CARD OF 'tetherlaw14.EapNil'. -/
def eapNilCard : Claim7 := { stood := { row := eapNilRow, standIns := [], harness := (true, "e6ac2857177bb7abdfa9d932f46e00ca3671de593eee567659e2902f089b4525"), looks := true }, kinds := [], alts := [], laidByText := true, laidKinds := [.data, .data], laidTests := true, laidLooks := .later }
def EapNilCardSaid : Prop := Claim7.holds Tryd.pinned (.plain (OpenSpec.ofChange eapNilSpec)) eapNilCard

/-- THE TIED CARD OF 'tetherlaw18.IpTrims'. -/
def ipTrimsCard : Claim7 := { stood := { row := ipTrimsRow, standIns := [], harness := (true, "e6ac2857177bb7abdfa9d932f46e00ca3671de593eee567659e2902f089b4525"), looks := true }, kinds := [], alts := [], laidByText := true, laidKinds := [.data, .data, .data], laidTests := true, laidLooks := .later }
def IpTrimsCardSaid : Prop := Claim7.holds Tryd.pinned (.plain (OpenSpec.ofChange ipTrimsSpec)) ipTrimsCard

/-- THE TIED CARD OF 'tetherlaw18.IpTurned'. -/
def ipTurnedCard : Claim7 := { stood := { row := ipTurnedRow, standIns := [], harness := (true, "e6ac2857177bb7abdfa9d932f46e00ca3671de593eee567659e2902f089b4525"), looks := true }, kinds := [], alts := [], laidByText := true, laidKinds := [.data, .data, .data], laidTests := true, laidLooks := .later }
def IpTurnedCardSaid : Prop := Claim7.holds Tryd.pinned (.plain (OpenSpec.ofChange ipTurnedSpec)) ipTurnedCard

/-- THE TIED CARD OF 'tetherlaw18.IpLives'. -/
def ipLivesCard : Claim7 := { stood := { row := ipLivesRow, standIns := [], harness := (true, "e6ac2857177bb7abdfa9d932f46e00ca3671de593eee567659e2902f089b4525"), looks := true }, kinds := [], alts := [], laidByText := true, laidKinds := [.data, .data, .data], laidTests := true, laidLooks := .later }
def IpLivesCardSaid : Prop := Claim7.holds Tryd.pinned (.plain (OpenSpec.ofChange ipLivesSpec)) ipLivesCard

/-- THE TIED CARD OF 'tetherlaw18.IpSums'. -/
def ipSumsCard : Claim7 := { stood := { row := ipSumsRow, standIns := [], harness := (true, "e6ac2857177bb7abdfa9d932f46e00ca3671de593eee567659e2902f089b4525"), looks := true }, kinds := [], alts := [], laidByText := true, laidKinds := [.data, .data, .data], laidTests := true, laidLooks := .later }
def IpSumsCardSaid : Prop := Claim7.holds Tryd.pinned (.plain (OpenSpec.ofChange ipSumsSpec)) ipSumsCard

/-- THE SECOND FORM's CARD OF 'tetherlaw14.EapMessages'. -/
def eapMessagesUptoCard : Claim7 := { stood := { row := eapMessagesUptoRow, standIns := [], harness := (true, "e6ac2857177bb7abdfa9d932f46e00ca3671de593eee567659e2902f089b4525"), looks := true }, kinds := [], alts := [], laidByText := true, laidKinds := [.data, .data], laidTests := true, laidLooks := .later }
def EapMessagesUptoCardSaid : Prop := Claim7.holds Tryd.pinned (.plain (OpenSpec.upto eapMessagesSpec)) eapMessagesUptoCard

/-- THE SECOND FORM's CARD OF 'tetherlaw14.EapProves'. -/
def eapProvesUptoCard : Claim7 := { stood := { row := eapProvesUptoRow, standIns := [], harness := (true, "e6ac2857177bb7abdfa9d932f46e00ca3671de593eee567659e2902f089b4525"), looks := true }, kinds := [], alts := [], laidByText := true, laidKinds := [.data, .data], laidTests := true, laidLooks := .later }
def EapProvesUptoCardSaid : Prop := Claim7.holds Tryd.pinned (.plain (OpenSpec.upto eapProvesSpec)) eapProvesUptoCard

/-- THE SECOND FORM's CARD OF 'tetherlaw14.EapMeet'. -/
def eapMeetUptoCard : Claim7 := { stood := { row := eapMeetUptoRow, standIns := [], harness := (true, "e6ac2857177bb7abdfa9d932f46e00ca3671de593eee567659e2902f089b4525"), looks := true }, kinds := [], alts := [], laidByText := true, laidKinds := [.data, .data], laidTests := true, laidLooks := .later }
def EapMeetUptoCardSaid : Prop := Claim7.holds Tryd.pinned (.plain (OpenSpec.upto eapMeetSpec)) eapMeetUptoCard

/-- THE SECOND FORM's CARD OF 'tetherlaw14.EapNil'. -/
def eapNilUptoCard : Claim7 := { stood := { row := eapNilUptoRow, standIns := [], harness := (true, "e6ac2857177bb7abdfa9d932f46e00ca3671de593eee567659e2902f089b4525"), looks := true }, kinds := [], alts := [], laidByText := true, laidKinds := [.data, .data], laidTests := true, laidLooks := .later }
def EapNilUptoCardSaid : Prop := Claim7.holds Tryd.pinned (.plain (OpenSpec.upto eapNilSpec)) eapNilUptoCard

/-- THE SECOND FORM's CARD OF 'tetherlaw18.IpTrims'. -/
def ipTrimsUptoCard : Claim7 := { stood := { row := ipTrimsUptoRow, standIns := [], harness := (true, "e6ac2857177bb7abdfa9d932f46e00ca3671de593eee567659e2902f089b4525"), looks := true }, kinds := [], alts := [], laidByText := true, laidKinds := [.data, .data, .data], laidTests := true, laidLooks := .later }
def IpTrimsUptoCardSaid : Prop := Claim7.holds Tryd.pinned (.plain (OpenSpec.upto ipTrimsSpec)) ipTrimsUptoCard

/-- THE SECOND FORM's CARD OF 'tetherlaw18.IpTurned'. -/
def ipTurnedUptoCard : Claim7 := { stood := { row := ipTurnedUptoRow, standIns := [], harness := (true, "e6ac2857177bb7abdfa9d932f46e00ca3671de593eee567659e2902f089b4525"), looks := true }, kinds := [], alts := [], laidByText := true, laidKinds := [.data, .data, .data], laidTests := true, laidLooks := .later }
def IpTurnedUptoCardSaid : Prop := Claim7.holds Tryd.pinned (.plain (OpenSpec.upto ipTurnedSpec)) ipTurnedUptoCard

/-- THE SECOND FORM's CARD OF 'tetherlaw18.IpLives'. -/
def ipLivesUptoCard : Claim7 := { stood := { row := ipLivesUptoRow, standIns := [], harness := (true, "e6ac2857177bb7abdfa9d932f46e00ca3671de593eee567659e2902f089b4525"), looks := true }, kinds := [], alts := [], laidByText := true, laidKinds := [.data, .data, .data], laidTests := true, laidLooks := .later }
def IpLivesUptoCardSaid : Prop := Claim7.holds Tryd.pinned (.plain (OpenSpec.upto ipLivesSpec)) ipLivesUptoCard

/-- THE SECOND FORM's CARD OF 'tetherlaw18.IpSums'. -/
def ipSumsUptoCard : Claim7 := { stood := { row := ipSumsUptoRow, standIns := [], harness := (true, "e6ac2857177bb7abdfa9d932f46e00ca3671de593eee567659e2902f089b4525"), looks := true }, kinds := [], alts := [], laidByText := true, laidKinds := [.data, .data, .data], laidTests := true, laidLooks := .later }
def IpSumsUptoCardSaid : Prop := Claim7.holds Tryd.pinned (.plain (OpenSpec.upto ipSumsSpec)) ipSumsUptoCard
end Rows
end Go.Proofs.YtjimoegegigoiaaDoor
