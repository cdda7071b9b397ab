/-
  NARROWER THAN 'FOR EVERY INPUT', by the rows' own cells (each row's printed sentence says how): FcsBursts: laid · FcsLinear: laid · FcsNil: laid.
  DERIVED. THE GIVEN ROWS OF THIS SEAT. 3 by the template 'for every input the law returns true; each argument reads behind the call as it read before'; 0 by the template 'total and deterministic' (their statements: YtamcoppfjmggcabDoorTotals.lean).
  GIVEN WITH THE SEED: the statements are not yours to turn. If you find one false, say at which input.
  Laid BY PROGRAM, IN A SANDBOX (cutbox-rows.mjs): the forced cells as the released guide's own fill.sh prints them over the translation 3b85f9cc12c2a823… (all of the seat's roots in one cut). By AI agents, Wed Nov 11 2026. No macro, syntax, notation, axiom, sorry.
-/
import Derived.Test.YtamcoppfjmggcabDoorChecked
import GoSem.Claim
import GoSem.ClaimJoined
import GoSem.ClaimMapViews
import Derived.JoinedTies
import Derived.KernelRfl
namespace Go.Proofs.YtamcoppfjmggcabDoor
/- THE CELL 'sum', in the pinned program and in every row, IS THE sha256 OF THE DUMP (.gsa) THAT YtamcoppfjmggcabDoorProg.lean LOADS. Nothing in Lean hashes anything: it is a label: what it is worth is what the hold of that sum in a sandbox is worth. -/
noncomputable def Tryd.pinned : Pinned := { name := "ytamcoppfjmggcabdoor", sum := "3b85f9cc12c2a8231f789365c9d394bc7ac6e46ffbe4867adbce5a0254ba58f1", checked := Tryd.checked }
namespace Rows
def none {H : Type} : Left H := { results := [], args := [] }

/- WHAT THE LISTED PACKAGE-LEVEL VARIABLES READ AS WHEN THE CALL BEGINS. Each datum BY PROGRAM (the guide's laid-datum.mjs) off the statement by which the dump's own 'gosem.cut.vars' lays the variable. In a bare row this is a premise. The card (YtamcoppfjmggcabDoorCards.lean) ties it to the program's text. -/
def laid_tether_fcs_half16 {H : Type} : DataW H := .agg [.lit (.int .u16 0), .lit (.int .u16 4225), .lit (.int .u16 8450), .lit (.int .u16 12675), .lit (.int .u16 16900), .lit (.int .u16 21125), .lit (.int .u16 25350), .lit (.int .u16 29575), .lit (.int .u16 33800), .lit (.int .u16 38025), .lit (.int .u16 42250), .lit (.int .u16 46475), .lit (.int .u16 50700), .lit (.int .u16 54925), .lit (.int .u16 59150), .lit (.int .u16 63375)]
def laid_tether_fcs_half32 {H : Type} : DataW H := .agg [.lit (.int .u32 0), .lit (.int .u32 498536548), .lit (.int .u32 997073096), .lit (.int .u32 651767980), .lit (.int .u32 1994146192), .lit (.int .u32 1802195444), .lit (.int .u32 1303535960), .lit (.int .u32 1342533948), .lit (.int .u32 3988292384), .lit (.int .u32 4027552580), .lit (.int .u32 3604390888), .lit (.int .u32 3412177804), .lit (.int .u32 2607071920), .lit (.int .u32 2262029012), .lit (.int .u32 2685067896), .lit (.int .u32 3183342108)]

/-- 'tetherlaw02.FcsBursts': WHATEVER THE INPUT: true; the input reads as it did. -/
def fcsBurstsSpec : ChangeSpec := { name := "fcsBursts", fn := fun _ => fun
  | [d1, d2, d3] => { results := [.lit (.bool true)], args := [d1, d2, d3] }
  | _ => none }
def fcsBurstsRow : OpenClaim := { program := "ytamcoppfjmggcabdoor", sum := "3b85f9cc12c2a8231f789365c9d394bc7ac6e46ffbe4867adbce5a0254ba58f1", func := "tether/tetherlaw02.FcsBursts", spec := "fcsBursts", named := ["tether/fcs.half16", "tether/fcs.half32"], apart := false, laid := [("tether/fcs.half16", laid_tether_fcs_half16), ("tether/fcs.half32", laid_tether_fcs_half32)] }
def FcsBurstsSaid : Prop := fcsBurstsRow.holds Tryd.pinned (OpenSpec.ofChange fcsBurstsSpec)

/-- ITS FALSE NEIGHBOUR: 'it returns false'. Refute it at one input. -/
def fcsBurstsWrong : ChangeSpec := { name := "fcsBursts", fn := fun _ => fun
  | [d1, d2, d3] => { results := [.lit (.bool false)], args := [d1, d2, d3] }
  | _ => none }
def FcsBurstsWrongFalsely : Prop := fcsBurstsRow.holds Tryd.pinned (OpenSpec.ofChange fcsBurstsWrong)

/-- 'tetherlaw02.FcsLinear': WHATEVER THE INPUT: true; the input reads as it did. -/
def fcsLinearSpec : ChangeSpec := { name := "fcsLinear", fn := fun _ => fun
  | [d1, d2, d3, d4, d5, d6] => { results := [.lit (.bool true)], args := [d1, d2, d3, d4, d5, d6] }
  | _ => none }
def fcsLinearRow : OpenClaim := { program := "ytamcoppfjmggcabdoor", sum := "3b85f9cc12c2a8231f789365c9d394bc7ac6e46ffbe4867adbce5a0254ba58f1", func := "tether/tetherlaw02.FcsLinear", spec := "fcsLinear", named := ["tether/fcs.half16", "tether/fcs.half32"], apart := false, laid := [("tether/fcs.half16", laid_tether_fcs_half16), ("tether/fcs.half32", laid_tether_fcs_half32)] }
def FcsLinearSaid : Prop := fcsLinearRow.holds Tryd.pinned (OpenSpec.ofChange fcsLinearSpec)

/-- ITS FALSE NEIGHBOUR: 'it returns false'. Refute it at one input. -/
def fcsLinearWrong : ChangeSpec := { name := "fcsLinear", fn := fun _ => fun
  | [d1, d2, d3, d4, d5, d6] => { results := [.lit (.bool false)], args := [d1, d2, d3, d4, d5, d6] }
  | _ => none }
def FcsLinearWrongFalsely : Prop := fcsLinearRow.holds Tryd.pinned (OpenSpec.ofChange fcsLinearWrong)

/-- 'tetherlaw02.FcsNil': WHATEVER THE INPUT: true; the input reads as it did. -/
def fcsNilSpec : ChangeSpec := { name := "fcsNil", fn := fun _ => fun
  | [d1, d2] => { results := [.lit (.bool true)], args := [d1, d2] }
  | _ => none }
def fcsNilRow : OpenClaim := { program := "ytamcoppfjmggcabdoor", sum := "3b85f9cc12c2a8231f789365c9d394bc7ac6e46ffbe4867adbce5a0254ba58f1", func := "tether/tetherlaw02.FcsNil", spec := "fcsNil", named := ["tether/fcs.half16", "tether/fcs.half32"], apart := false, laid := [("tether/fcs.half16", laid_tether_fcs_half16), ("tether/fcs.half32", laid_tether_fcs_half32)] }
def FcsNilSaid : Prop := fcsNilRow.holds Tryd.pinned (OpenSpec.ofChange fcsNilSpec)

/-- ITS FALSE NEIGHBOUR: 'it returns false'. Refute it at one input. -/
def fcsNilWrong : ChangeSpec := { name := "fcsNil", fn := fun _ => fun
  | [d1, d2] => { results := [.lit (.bool false)], args := [d1, d2] }
  | _ => none }
def FcsNilWrongFalsely : Prop := fcsNilRow.holds Tryd.pinned (OpenSpec.ofChange fcsNilWrong)

/- THE SECOND FORM. 'bulk': how many values and letters a reading holds, each counted each time it is reached (what is shared counts as often as it is met; a slice's spare places count too). A statement '..UptoSaid' is the law's where the arguments, and the package variables that the reading takes, are together of bulk at most 1048576: NARROWER than '..Said'. Prove '..Said' where nothing that the law and all that it calls make is longer than what came in: it says more and counts as full. Else prove '..UptoSaid'. A law counts once. -/
mutual
def uptoBulk {H : Type} : DataW H → Nat
  | .lit (.string bytes) => bytes.length + 1
  | .lit _ => 1
  | .nil => 1
  | .ptr d => uptoBulk d + 1
  | .slice elems spare => uptoBulkAll elems + uptoBulkAll spare + 1
  | .agg parts => uptoBulkAll parts + 1
  | .iface _ d => uptoBulk d + 1
  | .map entries => uptoBulkEntries entries + 1
  | .held _ => 1
def uptoBulkAll {H : Type} : List (DataW H) → Nat
  | [] => 0
  | d :: r => uptoBulk d + uptoBulkAll r
def uptoBulkEntries {H : Type} : List (Lit × DataW H) → Nat
  | [] => 0
  | x :: r => uptoBulkEntry x + uptoBulkEntries r
def uptoBulkEntry {H : Type} : Lit × DataW H → Nat
  | (.string bytes, d) => bytes.length + uptoBulk d + 1
  | (_, d) => uptoBulk d + 1
 end
def uptoSmall : (H : Type) → List (DataW H) → Bool := fun _ ds => decide (uptoBulkAll ds ≤ 1048576)
def OpenSpec.upto (s : _root_.Go.ChangeSpec) : _root_.Go.OpenSpec := { _root_.Go.OpenSpec.ofChange s with cond := some uptoSmall }

/-- 'tetherlaw02.FcsBursts', WHERE WHAT IT READS IS OF BULK AT MOST 1048576: true; the input reads as it did. -/
def fcsBurstsUptoRow : OpenClaim := { program := "ytamcoppfjmggcabdoor", sum := "3b85f9cc12c2a8231f789365c9d394bc7ac6e46ffbe4867adbce5a0254ba58f1", func := "tether/tetherlaw02.FcsBursts", spec := "fcsBursts", named := ["tether/fcs.half16", "tether/fcs.half32"], apart := false, laid := [("tether/fcs.half16", laid_tether_fcs_half16), ("tether/fcs.half32", laid_tether_fcs_half32)], narrowed := true }
def FcsBurstsUptoSaid : Prop := fcsBurstsUptoRow.holds Tryd.pinned (OpenSpec.upto fcsBurstsSpec)

/-- 'tetherlaw02.FcsLinear', WHERE WHAT IT READS IS OF BULK AT MOST 1048576: true; the input reads as it did. -/
def fcsLinearUptoRow : OpenClaim := { program := "ytamcoppfjmggcabdoor", sum := "3b85f9cc12c2a8231f789365c9d394bc7ac6e46ffbe4867adbce5a0254ba58f1", func := "tether/tetherlaw02.FcsLinear", spec := "fcsLinear", named := ["tether/fcs.half16", "tether/fcs.half32"], apart := false, laid := [("tether/fcs.half16", laid_tether_fcs_half16), ("tether/fcs.half32", laid_tether_fcs_half32)], narrowed := true }
def FcsLinearUptoSaid : Prop := fcsLinearUptoRow.holds Tryd.pinned (OpenSpec.upto fcsLinearSpec)

/-- 'tetherlaw02.FcsNil', WHERE WHAT IT READS IS OF BULK AT MOST 1048576: true; the input reads as it did. -/
def fcsNilUptoRow : OpenClaim := { program := "ytamcoppfjmggcabdoor", sum := "3b85f9cc12c2a8231f789365c9d394bc7ac6e46ffbe4867adbce5a0254ba58f1", func := "tether/tetherlaw02.FcsNil", spec := "fcsNil", named := ["tether/fcs.half16", "tether/fcs.half32"], apart := false, laid := [("tether/fcs.half16", laid_tether_fcs_half16), ("tether/fcs.half32", laid_tether_fcs_half32)], narrowed := true }
def FcsNilUptoSaid : Prop := fcsNilUptoRow.holds Tryd.pinned (OpenSpec.upto fcsNilSpec)

end Rows
end Go.Proofs.YtamcoppfjmggcabDoor
