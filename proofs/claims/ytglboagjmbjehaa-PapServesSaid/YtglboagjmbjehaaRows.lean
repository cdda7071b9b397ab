/-
  No cell of these rows narrows 'for every input' (looked for: loops, veiled, ifaces, maps, wideKeys, modest, calm, conditions, laid).
  DERIVED. THE GIVEN ROWS OF THIS SEAT. 3 by the template 'for every input the law returns true; each argument reads behind the call as it read before'; 0 by the template 'total and deterministic' (their statements: YtglboagjmbjehaaTotals.lean).
  GIVEN WITH THE SEED: the statements are not yours to turn. If you find one false, say at which input.
  Laid BY PROGRAM, IN A SANDBOX (cutbox-rows.mjs): the forced cells as the released guide's own fill.sh prints them over the translation ebcc74506f80741b… (all of the seat's roots in one cut). By AI agents, Wed Nov 11 2026. No macro, syntax, notation, axiom, sorry.
-/
import Derived.Test.YtglboagjmbjehaaChecked
import GoSem.Claim
import GoSem.ClaimJoined
import GoSem.ClaimMapViews
import Derived.JoinedTies
import Derived.KernelRfl
namespace Go.Proofs.Ytglboagjmbjehaa
/- THE CELL 'sum', in the pinned program and in every row, IS THE sha256 OF THE DUMP (.gsa) THAT YtglboagjmbjehaaProg.lean LOADS. Nothing in Lean hashes anything: it is a label: what it is worth is what the hold of that sum in a sandbox is worth. -/
noncomputable def Try.pinned : Pinned := { name := "ytglboagjmbjehaa", sum := "ebcc74506f80741beac310e93087d2ead715748e88575efd6e4501120052c452", checked := Try.checked }
namespace Rows
def none {H : Type} : Left H := { results := [], args := [] }

/-- 'tetherlaw12.PapServes': WHATEVER THE INPUT: true; the input reads as it did. -/
def papServesSpec : ChangeSpec := { name := "papServes", fn := fun _ => fun
  | [d1, d2, d3] => { results := [.lit (.bool true)], args := [d1, d2, d3] }
  | _ => none }
def papServesRow : OpenClaim := { program := "ytglboagjmbjehaa", sum := "ebcc74506f80741beac310e93087d2ead715748e88575efd6e4501120052c452", func := "tether/tetherlaw12.PapServes", spec := "papServes", unfollowed := true, recurses := true, plainKeys := false, apart := false }
def PapServesSaid : Prop := papServesRow.holds Try.pinned (OpenSpec.ofChange papServesSpec)

/-- ITS FALSE NEIGHBOUR: 'it returns false'. Refute it at one input. -/
def papServesWrong : ChangeSpec := { name := "papServes", fn := fun _ => fun
  | [d1, d2, d3] => { results := [.lit (.bool false)], args := [d1, d2, d3] }
  | _ => none }
def PapServesWrongFalsely : Prop := papServesRow.holds Try.pinned (OpenSpec.ofChange papServesWrong)

/-- 'tetherlaw12.PapAsks': WHATEVER THE INPUT: true; the input reads as it did. -/
def papAsksSpec : ChangeSpec := { name := "papAsks", fn := fun _ => fun
  | [d1, d2, d3, d4] => { results := [.lit (.bool true)], args := [d1, d2, d3, d4] }
  | _ => none }
def papAsksRow : OpenClaim := { program := "ytglboagjmbjehaa", sum := "ebcc74506f80741beac310e93087d2ead715748e88575efd6e4501120052c452", func := "tether/tetherlaw12.PapAsks", spec := "papAsks", unfollowed := true, recurses := true, plainKeys := false, apart := false }
def PapAsksSaid : Prop := papAsksRow.holds Try.pinned (OpenSpec.ofChange papAsksSpec)

/-- ITS FALSE NEIGHBOUR: 'it returns false'. Refute it at one input. -/
def papAsksWrong : ChangeSpec := { name := "papAsks", fn := fun _ => fun
  | [d1, d2, d3, d4] => { results := [.lit (.bool false)], args := [d1, d2, d3, d4] }
  | _ => none }
def PapAsksWrongFalsely : Prop := papAsksRow.holds Try.pinned (OpenSpec.ofChange papAsksWrong)

/-- 'tetherlaw12.PapMeet': WHATEVER THE INPUT: true; the input reads as it did. -/
def papMeetSpec : ChangeSpec := { name := "papMeet", fn := fun _ => fun
  | [d1, d2, d3, d4, d5] => { results := [.lit (.bool true)], args := [d1, d2, d3, d4, d5] }
  | _ => none }
def papMeetRow : OpenClaim := { program := "ytglboagjmbjehaa", sum := "ebcc74506f80741beac310e93087d2ead715748e88575efd6e4501120052c452", func := "tether/tetherlaw12.PapMeet", spec := "papMeet", unfollowed := true, recurses := true, plainKeys := false, apart := false }
def PapMeetSaid : Prop := papMeetRow.holds Try.pinned (OpenSpec.ofChange papMeetSpec)

/-- ITS FALSE NEIGHBOUR: 'it returns false'. Refute it at one input. -/
def papMeetWrong : ChangeSpec := { name := "papMeet", fn := fun _ => fun
  | [d1, d2, d3, d4, d5] => { results := [.lit (.bool false)], args := [d1, d2, d3, d4, d5] }
  | _ => none }
def PapMeetWrongFalsely : Prop := papMeetRow.holds Try.pinned (OpenSpec.ofChange papMeetWrong)

/- THE SECOND FORM. 'bulk': how many values and letters a reading holds, each counted each time it is reached (what is shared counts as often as it is met; a slice's spare places count too). A statement '..UptoSaid' is the law's where the arguments, and the package variables that the reading takes, are together of bulk at most 1048576: NARROWER than '..Said'. Prove '..Said' where nothing that the law and all that it calls make is longer than what came in: it says more and counts as full. Else prove '..UptoSaid'. A law counts once. -/
mutual
def uptoBulk {H : Type} : DataW H → Nat
  | .lit (.string bytes) => bytes.length + 1
  | .lit _ => 1
  | .nil => 1
  | .ptr d => uptoBulk d + 1
  | .slice elems spare => uptoBulkAll elems + uptoBulkAll spare + 1
  | .agg parts => uptoBulkAll parts + 1
  | .iface _ d => uptoBulk d + 1
  | .map entries => uptoBulkEntries entries + 1
  | .held _ => 1
def uptoBulkAll {H : Type} : List (DataW H) → Nat
  | [] => 0
  | d :: r => uptoBulk d + uptoBulkAll r
def uptoBulkEntries {H : Type} : List (Lit × DataW H) → Nat
  | [] => 0
  | x :: r => uptoBulkEntry x + uptoBulkEntries r
def uptoBulkEntry {H : Type} : Lit × DataW H → Nat
  | (.string bytes, d) => bytes.length + uptoBulk d + 1
  | (_, d) => uptoBulk d + 1
 end
def uptoSmall : (H : Type) → List (DataW H) → Bool := fun _ ds => decide (uptoBulkAll ds ≤ 1048576)
def OpenSpec.upto (s : _root_.Go.ChangeSpec) : _root_.Go.OpenSpec := { _root_.Go.OpenSpec.ofChange s with cond := some uptoSmall }

/-- 'tetherlaw12.PapServes', WHERE WHAT IT READS IS OF BULK AT MOST 1048576: true; the input reads as it did. -/
def papServesUptoRow : OpenClaim := { program := "ytglboagjmbjehaa", sum := "ebcc74506f80741beac310e93087d2ead715748e88575efd6e4501120052c452", func := "tether/tetherlaw12.PapServes", spec := "papServes", unfollowed := true, recurses := true, plainKeys := false, apart := false, narrowed := true }
def PapServesUptoSaid : Prop := papServesUptoRow.holds Try.pinned (OpenSpec.upto papServesSpec)

/-- 'tetherlaw12.PapAsks', WHERE WHAT IT READS IS OF BULK AT MOST 1048576: true; the input reads as it did. -/
def papAsksUptoRow : OpenClaim := { program := "ytglboagjmbjehaa", sum := "ebcc74506f80741beac310e93087d2ead715748e88575efd6e4501120052c452", func := "tether/tetherlaw12.PapAsks", spec := "papAsks", unfollowed := true, recurses := true, plainKeys := false, apart := false, narrowed := true }
def PapAsksUptoSaid : Prop := papAsksUptoRow.holds Try.pinned (OpenSpec.upto papAsksSpec)

/-- 'tetherlaw12.PapMeet', WHERE WHAT IT READS IS OF BULK AT MOST 1048576: true; the input reads as it did. -/
def papMeetUptoRow : OpenClaim := { program := "ytglboagjmbjehaa", sum := "ebcc74506f80741beac310e93087d2ead715748e88575efd6e4501120052c452", func := "tether/tetherlaw12.PapMeet", spec := "papMeet", unfollowed := true, recurses := true, plainKeys := false, apart := false, narrowed := true }
def PapMeetUptoSaid : Prop := papMeetUptoRow.holds Try.pinned (OpenSpec.upto papMeetSpec)

end Rows
end Go.Proofs.Ytglboagjmbjehaa
