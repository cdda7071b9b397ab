/-
  DERIVED. GIVEN WITH THE SEED: THE CARDS: each row of YtlpboleclehilaaDoorRows.lean that lists a variable, with what it lists TIED to the program's text (the seventh form; the later family's looks); each row that meets fmt, with fmt's text TOLD by the authors' own Lean function (tested against real Go, not proved from fmt's source: count such statements apart). THE CARD IS WHAT COUNTS. Prove the row's statement (the work); the ties are given (YtlpboleclehilaaDoorTie.lean); close each card by the builder's one call (the guide's Derived/Test/ToyasCard.lean, 'card_holds'). Laid BY PROGRAM, IN A SANDBOX (cutbox-door.mjs). By AI agents, Wed Nov 11 2026. No macro, syntax, notation, axiom, sorry.
-/
import Derived.Test.YtlpboleclehilaaDoorRows
import GoSem.ClaimSeven
namespace Go.Proofs.YtlpboleclehilaaDoor
namespace Rows

/-- THE TIED CARD OF 'tetherlaw22.CcpJudges'. -/
def ccpJudgesCard : Claim7 := { stood := { row := ccpJudgesRow, standIns := [], harness := (true, "4756916eb618006480ad69222e3fbb6ea4fca58a3009aaa1b7b109d54c848acc"), looks := false }, kinds := [], alts := [], laidByText := true, laidKinds := [.data], laidTests := true, laidLooks := .later }
def CcpJudgesCardSaid : Prop := Claim7.holds Tryd.pinned (.plain (OpenSpec.ofChange ccpJudgesSpec)) ccpJudgesCard

/-- THE TIED CARD OF 'tetherlaw22.CcpEnds'. -/
def ccpEndsCard : Claim7 := { stood := { row := ccpEndsRow, standIns := [], harness := (true, "4756916eb618006480ad69222e3fbb6ea4fca58a3009aaa1b7b109d54c848acc"), looks := false }, kinds := [], alts := [], laidByText := true, laidKinds := [.data], laidTests := true, laidLooks := .later }
def CcpEndsCardSaid : Prop := Claim7.holds Tryd.pinned (.plain (OpenSpec.ofChange ccpEndsSpec)) ccpEndsCard

/-- THE TIED CARD OF 'tetherlaw22.CcpFrames'. -/
def ccpFramesCard : Claim7 := { stood := { row := ccpFramesRow, standIns := [], harness := (true, "4756916eb618006480ad69222e3fbb6ea4fca58a3009aaa1b7b109d54c848acc"), looks := false }, kinds := [], alts := [], laidByText := true, laidKinds := [.data], laidTests := true, laidLooks := .later }
def CcpFramesCardSaid : Prop := Claim7.holds Tryd.pinned (.plain (OpenSpec.ofChange ccpFramesSpec)) ccpFramesCard

/-- THE SECOND FORM's CARD OF 'tetherlaw22.CcpJudges'. -/
def ccpJudgesUptoCard : Claim7 := { stood := { row := ccpJudgesUptoRow, standIns := [], harness := (true, "4756916eb618006480ad69222e3fbb6ea4fca58a3009aaa1b7b109d54c848acc"), looks := false }, kinds := [], alts := [], laidByText := true, laidKinds := [.data], laidTests := true, laidLooks := .later }
def CcpJudgesUptoCardSaid : Prop := Claim7.holds Tryd.pinned (.plain (OpenSpec.upto ccpJudgesSpec)) ccpJudgesUptoCard

/-- THE SECOND FORM's CARD OF 'tetherlaw22.CcpEnds'. -/
def ccpEndsUptoCard : Claim7 := { stood := { row := ccpEndsUptoRow, standIns := [], harness := (true, "4756916eb618006480ad69222e3fbb6ea4fca58a3009aaa1b7b109d54c848acc"), looks := false }, kinds := [], alts := [], laidByText := true, laidKinds := [.data], laidTests := true, laidLooks := .later }
def CcpEndsUptoCardSaid : Prop := Claim7.holds Tryd.pinned (.plain (OpenSpec.upto ccpEndsSpec)) ccpEndsUptoCard

/-- THE SECOND FORM's CARD OF 'tetherlaw22.CcpFrames'. -/
def ccpFramesUptoCard : Claim7 := { stood := { row := ccpFramesUptoRow, standIns := [], harness := (true, "4756916eb618006480ad69222e3fbb6ea4fca58a3009aaa1b7b109d54c848acc"), looks := false }, kinds := [], alts := [], laidByText := true, laidKinds := [.data], laidTests := true, laidLooks := .later }
def CcpFramesUptoCardSaid : Prop := Claim7.holds Tryd.pinned (.plain (OpenSpec.upto ccpFramesSpec)) ccpFramesUptoCard
end Rows
end Go.Proofs.YtlpboleclehilaaDoor
