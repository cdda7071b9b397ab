/-
  NARROWER THAN 'FOR EVERY INPUT', by the rows' own cells (each row's printed sentence says how): CcpJudges: laid · CcpEnds: laid · CcpFrames: laid.
  DERIVED. THE GIVEN ROWS OF THIS SEAT. 3 by the template 'for every input the law returns true; each argument reads behind the call as it read before'; 0 by the template 'total and deterministic' (their statements: YtlpboleclehilaaDoorTotals.lean).
  GIVEN WITH THE SEED: the statements are not yours to turn. If you find one false, say at which input.
  Laid BY PROGRAM, IN A SANDBOX (cutbox-rows.mjs): the forced cells as the released guide's own fill.sh prints them over the translation 7dd09f19dc959ee7… (all of the seat's roots in one cut). By AI agents, Wed Nov 11 2026. No macro, syntax, notation, axiom, sorry.
-/
import Derived.Test.YtlpboleclehilaaDoorChecked
import GoSem.Claim
import GoSem.ClaimJoined
import GoSem.ClaimMapViews
import Derived.JoinedTies
import Derived.KernelRfl
namespace Go.Proofs.YtlpboleclehilaaDoor
/- THE CELL 'sum', in the pinned program and in every row, IS THE sha256 OF THE DUMP (.gsa) THAT YtlpboleclehilaaDoorProg.lean LOADS. Nothing in Lean hashes anything: it is a label: what it is worth is what the hold of that sum in a sandbox is worth. -/
noncomputable def Tryd.pinned : Pinned := { name := "ytlpboleclehilaadoor", sum := "7dd09f19dc959ee77f4eb234924fa76d8110ca2bd19c58d0aee4f3a4993290bc", checked := Tryd.checked }
namespace Rows
def none {H : Type} : Left H := { results := [], args := [] }

/- WHAT THE LISTED PACKAGE-LEVEL VARIABLES READ AS WHEN THE CALL BEGINS. Each datum BY PROGRAM (the guide's laid-datum.mjs) off the statement by which the dump's own 'gosem.cut.vars' lays the variable. In a bare row this is a premise. The card (YtlpboleclehilaaDoorCards.lean) ties it to the program's text. -/
def laid_tether_ccp_methods {H : Type} : DataW H := .agg [.lit (.int .i64 26), .lit (.int .i64 21)]

/-- 'tetherlaw22.CcpJudges': WHATEVER THE INPUT: true; the input reads as it did. -/
def ccpJudgesSpec : ChangeSpec := { name := "ccpJudges", fn := fun _ => fun
  | [d1, d2, d3, d4] => { results := [.lit (.bool true)], args := [d1, d2, d3, d4] }
  | _ => none }
def ccpJudgesRow : OpenClaim := { program := "ytlpboleclehilaadoor", sum := "7dd09f19dc959ee77f4eb234924fa76d8110ca2bd19c58d0aee4f3a4993290bc", func := "tether/tetherlaw22.CcpJudges", spec := "ccpJudges", named := ["tether/ccp.methods"], apart := false, laid := [("tether/ccp.methods", laid_tether_ccp_methods)] }
def CcpJudgesSaid : Prop := ccpJudgesRow.holds Tryd.pinned (OpenSpec.ofChange ccpJudgesSpec)

/-- ITS FALSE NEIGHBOUR: 'it returns false'. Refute it at one input. -/
def ccpJudgesWrong : ChangeSpec := { name := "ccpJudges", fn := fun _ => fun
  | [d1, d2, d3, d4] => { results := [.lit (.bool false)], args := [d1, d2, d3, d4] }
  | _ => none }
def CcpJudgesWrongFalsely : Prop := ccpJudgesRow.holds Tryd.pinned (OpenSpec.ofChange ccpJudgesWrong)

/-- 'tetherlaw22.CcpEnds': WHATEVER THE INPUT: true; the input reads as it did. -/
def ccpEndsSpec : ChangeSpec := { name := "ccpEnds", fn := fun _ => fun
  | [d1, d2] => { results := [.lit (.bool true)], args := [d1, d2] }
  | _ => none }
def ccpEndsRow : OpenClaim := { program := "ytlpboleclehilaadoor", sum := "7dd09f19dc959ee77f4eb234924fa76d8110ca2bd19c58d0aee4f3a4993290bc", func := "tether/tetherlaw22.CcpEnds", spec := "ccpEnds", named := ["tether/ccp.methods"], apart := false, laid := [("tether/ccp.methods", laid_tether_ccp_methods)] }
def CcpEndsSaid : Prop := ccpEndsRow.holds Tryd.pinned (OpenSpec.ofChange ccpEndsSpec)

/-- ITS FALSE NEIGHBOUR: 'it returns false'. Refute it at one input. -/
def ccpEndsWrong : ChangeSpec := { name := "ccpEnds", fn := fun _ => fun
  | [d1, d2] => { results := [.lit (.bool false)], args := [d1, d2] }
  | _ => none }
def CcpEndsWrongFalsely : Prop := ccpEndsRow.holds Tryd.pinned (OpenSpec.ofChange ccpEndsWrong)

/-- 'tetherlaw22.CcpFrames': WHATEVER THE INPUT: true; the input reads as it did. -/
def ccpFramesSpec : ChangeSpec := { name := "ccpFrames", fn := fun _ => fun
  | [d1, d2] => { results := [.lit (.bool true)], args := [d1, d2] }
  | _ => none }
def ccpFramesRow : OpenClaim := { program := "ytlpboleclehilaadoor", sum := "7dd09f19dc959ee77f4eb234924fa76d8110ca2bd19c58d0aee4f3a4993290bc", func := "tether/tetherlaw22.CcpFrames", spec := "ccpFrames", named := ["tether/ccp.methods"], apart := false, laid := [("tether/ccp.methods", laid_tether_ccp_methods)] }
def CcpFramesSaid : Prop := ccpFramesRow.holds Tryd.pinned (OpenSpec.ofChange ccpFramesSpec)

/-- ITS FALSE NEIGHBOUR: 'it returns false'. Refute it at one input. -/
def ccpFramesWrong : ChangeSpec := { name := "ccpFrames", fn := fun _ => fun
  | [d1, d2] => { results := [.lit (.bool false)], args := [d1, d2] }
  | _ => none }
def CcpFramesWrongFalsely : Prop := ccpFramesRow.holds Tryd.pinned (OpenSpec.ofChange ccpFramesWrong)

/- THE SECOND FORM. 'bulk': how many values and letters a reading holds, each counted each time it is reached (what is shared counts as often as it is met; a slice's spare places count too). A statement '..UptoSaid' is the law's where the arguments, and the package variables that the reading takes, are together of bulk at most 1048576: NARROWER than '..Said'. Prove '..Said' where nothing that the law and all that it calls make is longer than what came in: it says more and counts as full. Else prove '..UptoSaid'. A law counts once. -/
mutual
def uptoBulk {H : Type} : DataW H → Nat
  | .lit (.string bytes) => bytes.length + 1
  | .lit _ => 1
  | .nil => 1
  | .ptr d => uptoBulk d + 1
  | .slice elems spare => uptoBulkAll elems + uptoBulkAll spare + 1
  | .agg parts => uptoBulkAll parts + 1
  | .iface _ d => uptoBulk d + 1
  | .map entries => uptoBulkEntries entries + 1
  | .held _ => 1
def uptoBulkAll {H : Type} : List (DataW H) → Nat
  | [] => 0
  | d :: r => uptoBulk d + uptoBulkAll r
def uptoBulkEntries {H : Type} : List (Lit × DataW H) → Nat
  | [] => 0
  | x :: r => uptoBulkEntry x + uptoBulkEntries r
def uptoBulkEntry {H : Type} : Lit × DataW H → Nat
  | (.string bytes, d) => bytes.length + uptoBulk d + 1
  | (_, d) => uptoBulk d + 1
 end
def uptoSmall : (H : Type) → List (DataW H) → Bool := fun _ ds => decide (uptoBulkAll ds ≤ 1048576)
def OpenSpec.upto (s : _root_.Go.ChangeSpec) : _root_.Go.OpenSpec := { _root_.Go.OpenSpec.ofChange s with cond := some uptoSmall }

/-- 'tetherlaw22.CcpJudges', WHERE WHAT IT READS IS OF BULK AT MOST 1048576: true; the input reads as it did. -/
def ccpJudgesUptoRow : OpenClaim := { program := "ytlpboleclehilaadoor", sum := "7dd09f19dc959ee77f4eb234924fa76d8110ca2bd19c58d0aee4f3a4993290bc", func := "tether/tetherlaw22.CcpJudges", spec := "ccpJudges", named := ["tether/ccp.methods"], apart := false, laid := [("tether/ccp.methods", laid_tether_ccp_methods)], narrowed := true }
def CcpJudgesUptoSaid : Prop := ccpJudgesUptoRow.holds Tryd.pinned (OpenSpec.upto ccpJudgesSpec)

/-- 'tetherlaw22.CcpEnds', WHERE WHAT IT READS IS OF BULK AT MOST 1048576: true; the input reads as it did. -/
def ccpEndsUptoRow : OpenClaim := { program := "ytlpboleclehilaadoor", sum := "7dd09f19dc959ee77f4eb234924fa76d8110ca2bd19c58d0aee4f3a4993290bc", func := "tether/tetherlaw22.CcpEnds", spec := "ccpEnds", named := ["tether/ccp.methods"], apart := false, laid := [("tether/ccp.methods", laid_tether_ccp_methods)], narrowed := true }
def CcpEndsUptoSaid : Prop := ccpEndsUptoRow.holds Tryd.pinned (OpenSpec.upto ccpEndsSpec)

/-- 'tetherlaw22.CcpFrames', WHERE WHAT IT READS IS OF BULK AT MOST 1048576: true; the input reads as it did. -/
def ccpFramesUptoRow : OpenClaim := { program := "ytlpboleclehilaadoor", sum := "7dd09f19dc959ee77f4eb234924fa76d8110ca2bd19c58d0aee4f3a4993290bc", func := "tether/tetherlaw22.CcpFrames", spec := "ccpFrames", named := ["tether/ccp.methods"], apart := false, laid := [("tether/ccp.methods", laid_tether_ccp_methods)], narrowed := true }
def CcpFramesUptoSaid : Prop := ccpFramesUptoRow.holds Tryd.pinned (OpenSpec.upto ccpFramesSpec)

end Rows
end Go.Proofs.YtlpboleclehilaaDoor
