/-
  No cell of these rows narrows 'for every input' (looked for: loops, veiled, ifaces, maps, wideKeys, modest, calm, conditions, laid).
  DERIVED. THE GIVEN ROWS OF THIS SEAT. 4 by the template 'for every input the law returns true; each argument reads behind the call as it read before'; 0 by the template 'total and deterministic' (their statements: YtciijnhagdfpiaaTotals.lean).
  GIVEN WITH THE SEED: the statements are not yours to turn. If you find one false, say at which input.
  Laid BY PROGRAM, IN A SANDBOX (cutbox-rows.mjs): the forced cells as the released guide's own fill.sh prints them over the translation 883f06dd2561c4f9… (all of the seat's roots in one cut). By AI agents, Wed Nov 11 2026. No macro, syntax, notation, axiom, sorry.
-/
import Derived.Test.YtciijnhagdfpiaaChecked
import GoSem.Claim
import GoSem.ClaimJoined
import GoSem.ClaimMapViews
import Derived.JoinedTies
import Derived.KernelRfl
namespace Go.Proofs.Ytciijnhagdfpiaa
/- THE CELL 'sum', in the pinned program and in every row, IS THE sha256 OF THE DUMP (.gsa) THAT YtciijnhagdfpiaaProg.lean LOADS. Nothing in Lean hashes anything: it is a label: what it is worth is what the hold of that sum in a sandbox is worth. -/
noncomputable def Try.pinned : Pinned := { name := "ytciijnhagdfpiaa", sum := "883f06dd2561c4f9cee81d0549509812285811d2d7a1e85f8ef902debb2a0af0", checked := Try.checked }
namespace Rows
def none {H : Type} : Left H := { results := [], args := [] }

/-- 'tetherlaw17.Ipv6cpOptions': WHATEVER THE INPUT: true; the input reads as it did. -/
def ipv6cpOptionsSpec : ChangeSpec := { name := "ipv6cpOptions", fn := fun _ => fun
  | [d1, d2, d3, d4] => { results := [.lit (.bool true)], args := [d1, d2, d3, d4] }
  | _ => none }
def ipv6cpOptionsRow : OpenClaim := { program := "ytciijnhagdfpiaa", sum := "883f06dd2561c4f9cee81d0549509812285811d2d7a1e85f8ef902debb2a0af0", func := "tether/tetherlaw17.Ipv6cpOptions", spec := "ipv6cpOptions", unfollowed := true, recurses := true, apart := false }
def Ipv6cpOptionsSaid : Prop := ipv6cpOptionsRow.holds Try.pinned (OpenSpec.ofChange ipv6cpOptionsSpec)

/-- ITS FALSE NEIGHBOUR: 'it returns false'. Refute it at one input. -/
def ipv6cpOptionsWrong : ChangeSpec := { name := "ipv6cpOptions", fn := fun _ => fun
  | [d1, d2, d3, d4] => { results := [.lit (.bool false)], args := [d1, d2, d3, d4] }
  | _ => none }
def Ipv6cpOptionsWrongFalsely : Prop := ipv6cpOptionsRow.holds Try.pinned (OpenSpec.ofChange ipv6cpOptionsWrong)

/-- 'tetherlaw17.Ipv6cpJudges': WHATEVER THE INPUT: true; the input reads as it did. -/
def ipv6cpJudgesSpec : ChangeSpec := { name := "ipv6cpJudges", fn := fun _ => fun
  | [d1, d2, d3, d4, d5] => { results := [.lit (.bool true)], args := [d1, d2, d3, d4, d5] }
  | _ => none }
def ipv6cpJudgesRow : OpenClaim := { program := "ytciijnhagdfpiaa", sum := "883f06dd2561c4f9cee81d0549509812285811d2d7a1e85f8ef902debb2a0af0", func := "tether/tetherlaw17.Ipv6cpJudges", spec := "ipv6cpJudges", unfollowed := true, recurses := true, apart := false }
def Ipv6cpJudgesSaid : Prop := ipv6cpJudgesRow.holds Try.pinned (OpenSpec.ofChange ipv6cpJudgesSpec)

/-- ITS FALSE NEIGHBOUR: 'it returns false'. Refute it at one input. -/
def ipv6cpJudgesWrong : ChangeSpec := { name := "ipv6cpJudges", fn := fun _ => fun
  | [d1, d2, d3, d4, d5] => { results := [.lit (.bool false)], args := [d1, d2, d3, d4, d5] }
  | _ => none }
def Ipv6cpJudgesWrongFalsely : Prop := ipv6cpJudgesRow.holds Try.pinned (OpenSpec.ofChange ipv6cpJudgesWrong)

/-- 'tetherlaw17.Ipv6cpAsks': WHATEVER THE INPUT: true; the input reads as it did. -/
def ipv6cpAsksSpec : ChangeSpec := { name := "ipv6cpAsks", fn := fun _ => fun
  | [d1, d2, d3, d4] => { results := [.lit (.bool true)], args := [d1, d2, d3, d4] }
  | _ => none }
def ipv6cpAsksRow : OpenClaim := { program := "ytciijnhagdfpiaa", sum := "883f06dd2561c4f9cee81d0549509812285811d2d7a1e85f8ef902debb2a0af0", func := "tether/tetherlaw17.Ipv6cpAsks", spec := "ipv6cpAsks", unfollowed := true, recurses := true, apart := false }
def Ipv6cpAsksSaid : Prop := ipv6cpAsksRow.holds Try.pinned (OpenSpec.ofChange ipv6cpAsksSpec)

/-- ITS FALSE NEIGHBOUR: 'it returns false'. Refute it at one input. -/
def ipv6cpAsksWrong : ChangeSpec := { name := "ipv6cpAsks", fn := fun _ => fun
  | [d1, d2, d3, d4] => { results := [.lit (.bool false)], args := [d1, d2, d3, d4] }
  | _ => none }
def Ipv6cpAsksWrongFalsely : Prop := ipv6cpAsksRow.holds Try.pinned (OpenSpec.ofChange ipv6cpAsksWrong)

/-- 'tetherlaw17.Ipv6cpEnds': WHATEVER THE INPUT: true; the input reads as it did. -/
def ipv6cpEndsSpec : ChangeSpec := { name := "ipv6cpEnds", fn := fun _ => fun
  | [d1, d2, d3, d4, d5] => { results := [.lit (.bool true)], args := [d1, d2, d3, d4, d5] }
  | _ => none }
def ipv6cpEndsRow : OpenClaim := { program := "ytciijnhagdfpiaa", sum := "883f06dd2561c4f9cee81d0549509812285811d2d7a1e85f8ef902debb2a0af0", func := "tether/tetherlaw17.Ipv6cpEnds", spec := "ipv6cpEnds", unfollowed := true, recurses := true, apart := false }
def Ipv6cpEndsSaid : Prop := ipv6cpEndsRow.holds Try.pinned (OpenSpec.ofChange ipv6cpEndsSpec)

/-- ITS FALSE NEIGHBOUR: 'it returns false'. Refute it at one input. -/
def ipv6cpEndsWrong : ChangeSpec := { name := "ipv6cpEnds", fn := fun _ => fun
  | [d1, d2, d3, d4, d5] => { results := [.lit (.bool false)], args := [d1, d2, d3, d4, d5] }
  | _ => none }
def Ipv6cpEndsWrongFalsely : Prop := ipv6cpEndsRow.holds Try.pinned (OpenSpec.ofChange ipv6cpEndsWrong)

/- THE SECOND FORM. 'bulk': how many values and letters a reading holds, each counted each time it is reached (what is shared counts as often as it is met; a slice's spare places count too). A statement '..UptoSaid' is the law's where the arguments, and the package variables that the reading takes, are together of bulk at most 1048576: NARROWER than '..Said'. Prove '..Said' where nothing that the law and all that it calls make is longer than what came in: it says more and counts as full. Else prove '..UptoSaid'. A law counts once. -/
mutual
def uptoBulk {H : Type} : DataW H → Nat
  | .lit (.string bytes) => bytes.length + 1
  | .lit _ => 1
  | .nil => 1
  | .ptr d => uptoBulk d + 1
  | .slice elems spare => uptoBulkAll elems + uptoBulkAll spare + 1
  | .agg parts => uptoBulkAll parts + 1
  | .iface _ d => uptoBulk d + 1
  | .map entries => uptoBulkEntries entries + 1
  | .held _ => 1
def uptoBulkAll {H : Type} : List (DataW H) → Nat
  | [] => 0
  | d :: r => uptoBulk d + uptoBulkAll r
def uptoBulkEntries {H : Type} : List (Lit × DataW H) → Nat
  | [] => 0
  | x :: r => uptoBulkEntry x + uptoBulkEntries r
def uptoBulkEntry {H : Type} : Lit × DataW H → Nat
  | (.string bytes, d) => bytes.length + uptoBulk d + 1
  | (_, d) => uptoBulk d + 1
 end
def uptoSmall : (H : Type) → List (DataW H) → Bool := fun _ ds => decide (uptoBulkAll ds ≤ 1048576)
def OpenSpec.upto (s : _root_.Go.ChangeSpec) : _root_.Go.OpenSpec := { _root_.Go.OpenSpec.ofChange s with cond := some uptoSmall }

/-- 'tetherlaw17.Ipv6cpOptions', WHERE WHAT IT READS IS OF BULK AT MOST 1048576: true; the input reads as it did. -/
def ipv6cpOptionsUptoRow : OpenClaim := { program := "ytciijnhagdfpiaa", sum := "883f06dd2561c4f9cee81d0549509812285811d2d7a1e85f8ef902debb2a0af0", func := "tether/tetherlaw17.Ipv6cpOptions", spec := "ipv6cpOptions", unfollowed := true, recurses := true, apart := false, narrowed := true }
def Ipv6cpOptionsUptoSaid : Prop := ipv6cpOptionsUptoRow.holds Try.pinned (OpenSpec.upto ipv6cpOptionsSpec)

/-- 'tetherlaw17.Ipv6cpJudges', WHERE WHAT IT READS IS OF BULK AT MOST 1048576: true; the input reads as it did. -/
def ipv6cpJudgesUptoRow : OpenClaim := { program := "ytciijnhagdfpiaa", sum := "883f06dd2561c4f9cee81d0549509812285811d2d7a1e85f8ef902debb2a0af0", func := "tether/tetherlaw17.Ipv6cpJudges", spec := "ipv6cpJudges", unfollowed := true, recurses := true, apart := false, narrowed := true }
def Ipv6cpJudgesUptoSaid : Prop := ipv6cpJudgesUptoRow.holds Try.pinned (OpenSpec.upto ipv6cpJudgesSpec)

/-- 'tetherlaw17.Ipv6cpAsks', WHERE WHAT IT READS IS OF BULK AT MOST 1048576: true; the input reads as it did. -/
def ipv6cpAsksUptoRow : OpenClaim := { program := "ytciijnhagdfpiaa", sum := "883f06dd2561c4f9cee81d0549509812285811d2d7a1e85f8ef902debb2a0af0", func := "tether/tetherlaw17.Ipv6cpAsks", spec := "ipv6cpAsks", unfollowed := true, recurses := true, apart := false, narrowed := true }
def Ipv6cpAsksUptoSaid : Prop := ipv6cpAsksUptoRow.holds Try.pinned (OpenSpec.upto ipv6cpAsksSpec)

/-- 'tetherlaw17.Ipv6cpEnds', WHERE WHAT IT READS IS OF BULK AT MOST 1048576: true; the input reads as it did. -/
def ipv6cpEndsUptoRow : OpenClaim := { program := "ytciijnhagdfpiaa", sum := "883f06dd2561c4f9cee81d0549509812285811d2d7a1e85f8ef902debb2a0af0", func := "tether/tetherlaw17.Ipv6cpEnds", spec := "ipv6cpEnds", unfollowed := true, recurses := true, apart := false, narrowed := true }
def Ipv6cpEndsUptoSaid : Prop := ipv6cpEndsUptoRow.holds Try.pinned (OpenSpec.upto ipv6cpEndsSpec)

end Rows
end Go.Proofs.Ytciijnhagdfpiaa
