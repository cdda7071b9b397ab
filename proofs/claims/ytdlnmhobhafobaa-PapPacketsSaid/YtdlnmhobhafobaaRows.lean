/-
  No cell of these rows narrows 'for every input' (looked for: loops, veiled, ifaces, maps, wideKeys, modest, calm, conditions, laid).
  DERIVED. THE GIVEN ROWS OF THIS SEAT. 7 by the template 'for every input the law returns true; each argument reads behind the call as it read before'; 0 by the template 'total and deterministic' (their statements: YtdlnmhobhafobaaTotals.lean).
  GIVEN WITH THE SEED: the statements are not yours to turn. If you find one false, say at which input.
  Laid BY PROGRAM, IN A SANDBOX (cutbox-rows.mjs): the forced cells as the released guide's own fill.sh prints them over the translation adca055f9e236b79… (all of the seat's roots in one cut). By AI agents, Wed Nov 11 2026. No macro, syntax, notation, axiom, sorry.
-/
import Derived.Test.YtdlnmhobhafobaaChecked
import GoSem.Claim
import GoSem.ClaimJoined
import GoSem.ClaimMapViews
import Derived.JoinedTies
import Derived.KernelRfl
namespace Go.Proofs.Ytdlnmhobhafobaa
/- THE CELL 'sum', in the pinned program and in every row, IS THE sha256 OF THE DUMP (.gsa) THAT YtdlnmhobhafobaaProg.lean LOADS. Nothing in Lean hashes anything: it is a label: what it is worth is what the hold of that sum in a sandbox is worth. -/
noncomputable def Try.pinned : Pinned := { name := "ytdlnmhobhafobaa", sum := "adca055f9e236b7992e1bfc6bb29172ccf1b64e737eea5c26544f02883939df2", checked := Try.checked }
namespace Rows
def none {H : Type} : Left H := { results := [], args := [] }

/-- 'tetherlaw08.TimerPlays': WHATEVER THE INPUT: true; the input reads as it did. -/
def timerPlaysSpec : ChangeSpec := { name := "timerPlays", fn := fun _ => fun
  | [d1, d2] => { results := [.lit (.bool true)], args := [d1, d2] }
  | _ => none }
def timerPlaysRow : OpenClaim := { program := "ytdlnmhobhafobaa", sum := "adca055f9e236b7992e1bfc6bb29172ccf1b64e737eea5c26544f02883939df2", func := "tether/tetherlaw08.TimerPlays", spec := "timerPlays", inPlace := ["slices.overlaps[tether/timer.timer]"], unfollowed := true, recurses := true, plainKeys := false, apart := false }
def TimerPlaysSaid : Prop := timerPlaysRow.holds Try.pinned (OpenSpec.ofChange timerPlaysSpec)

/-- ITS FALSE NEIGHBOUR: 'it returns false'. Refute it at one input. -/
def timerPlaysWrong : ChangeSpec := { name := "timerPlays", fn := fun _ => fun
  | [d1, d2] => { results := [.lit (.bool false)], args := [d1, d2] }
  | _ => none }
def TimerPlaysWrongFalsely : Prop := timerPlaysRow.holds Try.pinned (OpenSpec.ofChange timerPlaysWrong)

/-- 'tetherlaw08.TimerFull': WHATEVER THE INPUT: true; the input reads as it did. -/
def timerFullSpec : ChangeSpec := { name := "timerFull", fn := fun _ => fun
  | [d1, d2, d3] => { results := [.lit (.bool true)], args := [d1, d2, d3] }
  | _ => none }
def timerFullRow : OpenClaim := { program := "ytdlnmhobhafobaa", sum := "adca055f9e236b7992e1bfc6bb29172ccf1b64e737eea5c26544f02883939df2", func := "tether/tetherlaw08.TimerFull", spec := "timerFull", inPlace := ["slices.overlaps[tether/timer.timer]"], unfollowed := true, recurses := true, plainKeys := false, apart := false }
def TimerFullSaid : Prop := timerFullRow.holds Try.pinned (OpenSpec.ofChange timerFullSpec)

/-- ITS FALSE NEIGHBOUR: 'it returns false'. Refute it at one input. -/
def timerFullWrong : ChangeSpec := { name := "timerFull", fn := fun _ => fun
  | [d1, d2, d3] => { results := [.lit (.bool false)], args := [d1, d2, d3] }
  | _ => none }
def TimerFullWrongFalsely : Prop := timerFullRow.holds Try.pinned (OpenSpec.ofChange timerFullWrong)

/-- 'tetherlaw12.PapPackets': WHATEVER THE INPUT: true; the input reads as it did. -/
def papPacketsSpec : ChangeSpec := { name := "papPackets", fn := fun _ => fun
  | [d1, d2, d3, d4, d5] => { results := [.lit (.bool true)], args := [d1, d2, d3, d4, d5] }
  | _ => none }
def papPacketsRow : OpenClaim := { program := "ytdlnmhobhafobaa", sum := "adca055f9e236b7992e1bfc6bb29172ccf1b64e737eea5c26544f02883939df2", func := "tether/tetherlaw12.PapPackets", spec := "papPackets", unfollowed := true, recurses := true, plainKeys := false, apart := false }
def PapPacketsSaid : Prop := papPacketsRow.holds Try.pinned (OpenSpec.ofChange papPacketsSpec)

/-- ITS FALSE NEIGHBOUR: 'it returns false'. Refute it at one input. -/
def papPacketsWrong : ChangeSpec := { name := "papPackets", fn := fun _ => fun
  | [d1, d2, d3, d4, d5] => { results := [.lit (.bool false)], args := [d1, d2, d3, d4, d5] }
  | _ => none }
def PapPacketsWrongFalsely : Prop := papPacketsRow.holds Try.pinned (OpenSpec.ofChange papPacketsWrong)

/-- 'tetherlaw12.PapServes': WHATEVER THE INPUT: true; the input reads as it did. -/
def papServesSpec : ChangeSpec := { name := "papServes", fn := fun _ => fun
  | [d1, d2, d3] => { results := [.lit (.bool true)], args := [d1, d2, d3] }
  | _ => none }
def papServesRow : OpenClaim := { program := "ytdlnmhobhafobaa", sum := "adca055f9e236b7992e1bfc6bb29172ccf1b64e737eea5c26544f02883939df2", func := "tether/tetherlaw12.PapServes", spec := "papServes", unfollowed := true, recurses := true, plainKeys := false, apart := false }
def PapServesSaid : Prop := papServesRow.holds Try.pinned (OpenSpec.ofChange papServesSpec)

/-- ITS FALSE NEIGHBOUR: 'it returns false'. Refute it at one input. -/
def papServesWrong : ChangeSpec := { name := "papServes", fn := fun _ => fun
  | [d1, d2, d3] => { results := [.lit (.bool false)], args := [d1, d2, d3] }
  | _ => none }
def PapServesWrongFalsely : Prop := papServesRow.holds Try.pinned (OpenSpec.ofChange papServesWrong)

/-- 'tetherlaw12.PapAsks': WHATEVER THE INPUT: true; the input reads as it did. -/
def papAsksSpec : ChangeSpec := { name := "papAsks", fn := fun _ => fun
  | [d1, d2, d3, d4] => { results := [.lit (.bool true)], args := [d1, d2, d3, d4] }
  | _ => none }
def papAsksRow : OpenClaim := { program := "ytdlnmhobhafobaa", sum := "adca055f9e236b7992e1bfc6bb29172ccf1b64e737eea5c26544f02883939df2", func := "tether/tetherlaw12.PapAsks", spec := "papAsks", unfollowed := true, recurses := true, plainKeys := false, apart := false }
def PapAsksSaid : Prop := papAsksRow.holds Try.pinned (OpenSpec.ofChange papAsksSpec)

/-- ITS FALSE NEIGHBOUR: 'it returns false'. Refute it at one input. -/
def papAsksWrong : ChangeSpec := { name := "papAsks", fn := fun _ => fun
  | [d1, d2, d3, d4] => { results := [.lit (.bool false)], args := [d1, d2, d3, d4] }
  | _ => none }
def PapAsksWrongFalsely : Prop := papAsksRow.holds Try.pinned (OpenSpec.ofChange papAsksWrong)

/-- 'tetherlaw12.PapMeet': WHATEVER THE INPUT: true; the input reads as it did. -/
def papMeetSpec : ChangeSpec := { name := "papMeet", fn := fun _ => fun
  | [d1, d2, d3, d4, d5] => { results := [.lit (.bool true)], args := [d1, d2, d3, d4, d5] }
  | _ => none }
def papMeetRow : OpenClaim := { program := "ytdlnmhobhafobaa", sum := "adca055f9e236b7992e1bfc6bb29172ccf1b64e737eea5c26544f02883939df2", func := "tether/tetherlaw12.PapMeet", spec := "papMeet", unfollowed := true, recurses := true, plainKeys := false, apart := false }
def PapMeetSaid : Prop := papMeetRow.holds Try.pinned (OpenSpec.ofChange papMeetSpec)

/-- ITS FALSE NEIGHBOUR: 'it returns false'. Refute it at one input. -/
def papMeetWrong : ChangeSpec := { name := "papMeet", fn := fun _ => fun
  | [d1, d2, d3, d4, d5] => { results := [.lit (.bool false)], args := [d1, d2, d3, d4, d5] }
  | _ => none }
def PapMeetWrongFalsely : Prop := papMeetRow.holds Try.pinned (OpenSpec.ofChange papMeetWrong)

/-- 'tetherlaw12.PapNil': WHATEVER THE INPUT: true; the input reads as it did. -/
def papNilSpec : ChangeSpec := { name := "papNil", fn := fun _ => fun
  | [d] => { results := [.lit (.bool true)], args := [d] }
  | _ => none }
def papNilRow : OpenClaim := { program := "ytdlnmhobhafobaa", sum := "adca055f9e236b7992e1bfc6bb29172ccf1b64e737eea5c26544f02883939df2", func := "tether/tetherlaw12.PapNil", spec := "papNil", unfollowed := true, recurses := true, plainKeys := false, apart := false }
def PapNilSaid : Prop := papNilRow.holds Try.pinned (OpenSpec.ofChange papNilSpec)

/-- ITS FALSE NEIGHBOUR: 'it returns false'. Refute it at one input. -/
def papNilWrong : ChangeSpec := { name := "papNil", fn := fun _ => fun
  | [d] => { results := [.lit (.bool false)], args := [d] }
  | _ => none }
def PapNilWrongFalsely : Prop := papNilRow.holds Try.pinned (OpenSpec.ofChange papNilWrong)

/- THE SECOND FORM. 'bulk': how many values and letters a reading holds, each counted each time it is reached (what is shared counts as often as it is met; a slice's spare places count too). A statement '..UptoSaid' is the law's where the arguments, and the package variables that the reading takes, are together of bulk at most 1048576: NARROWER than '..Said'. Prove '..Said' where nothing that the law and all that it calls make is longer than what came in: it says more and counts as full. Else prove '..UptoSaid'. A law counts once. -/
mutual
def uptoBulk {H : Type} : DataW H → Nat
  | .lit (.string bytes) => bytes.length + 1
  | .lit _ => 1
  | .nil => 1
  | .ptr d => uptoBulk d + 1
  | .slice elems spare => uptoBulkAll elems + uptoBulkAll spare + 1
  | .agg parts => uptoBulkAll parts + 1
  | .iface _ d => uptoBulk d + 1
  | .map entries => uptoBulkEntries entries + 1
  | .held _ => 1
def uptoBulkAll {H : Type} : List (DataW H) → Nat
  | [] => 0
  | d :: r => uptoBulk d + uptoBulkAll r
def uptoBulkEntries {H : Type} : List (Lit × DataW H) → Nat
  | [] => 0
  | x :: r => uptoBulkEntry x + uptoBulkEntries r
def uptoBulkEntry {H : Type} : Lit × DataW H → Nat
  | (.string bytes, d) => bytes.length + uptoBulk d + 1
  | (_, d) => uptoBulk d + 1
 end
def uptoSmall : (H : Type) → List (DataW H) → Bool := fun _ ds => decide (uptoBulkAll ds ≤ 1048576)
def OpenSpec.upto (s : _root_.Go.ChangeSpec) : _root_.Go.OpenSpec := { _root_.Go.OpenSpec.ofChange s with cond := some uptoSmall }

/-- 'tetherlaw08.TimerPlays', WHERE WHAT IT READS IS OF BULK AT MOST 1048576: true; the input reads as it did. -/
def timerPlaysUptoRow : OpenClaim := { program := "ytdlnmhobhafobaa", sum := "adca055f9e236b7992e1bfc6bb29172ccf1b64e737eea5c26544f02883939df2", func := "tether/tetherlaw08.TimerPlays", spec := "timerPlays", inPlace := ["slices.overlaps[tether/timer.timer]"], unfollowed := true, recurses := true, plainKeys := false, apart := false, narrowed := true }
def TimerPlaysUptoSaid : Prop := timerPlaysUptoRow.holds Try.pinned (OpenSpec.upto timerPlaysSpec)

/-- 'tetherlaw08.TimerFull', WHERE WHAT IT READS IS OF BULK AT MOST 1048576: true; the input reads as it did. -/
def timerFullUptoRow : OpenClaim := { program := "ytdlnmhobhafobaa", sum := "adca055f9e236b7992e1bfc6bb29172ccf1b64e737eea5c26544f02883939df2", func := "tether/tetherlaw08.TimerFull", spec := "timerFull", inPlace := ["slices.overlaps[tether/timer.timer]"], unfollowed := true, recurses := true, plainKeys := false, apart := false, narrowed := true }
def TimerFullUptoSaid : Prop := timerFullUptoRow.holds Try.pinned (OpenSpec.upto timerFullSpec)

/-- 'tetherlaw12.PapPackets', WHERE WHAT IT READS IS OF BULK AT MOST 1048576: true; the input reads as it did. -/
def papPacketsUptoRow : OpenClaim := { program := "ytdlnmhobhafobaa", sum := "adca055f9e236b7992e1bfc6bb29172ccf1b64e737eea5c26544f02883939df2", func := "tether/tetherlaw12.PapPackets", spec := "papPackets", unfollowed := true, recurses := true, plainKeys := false, apart := false, narrowed := true }
def PapPacketsUptoSaid : Prop := papPacketsUptoRow.holds Try.pinned (OpenSpec.upto papPacketsSpec)

/-- 'tetherlaw12.PapServes', WHERE WHAT IT READS IS OF BULK AT MOST 1048576: true; the input reads as it did. -/
def papServesUptoRow : OpenClaim := { program := "ytdlnmhobhafobaa", sum := "adca055f9e236b7992e1bfc6bb29172ccf1b64e737eea5c26544f02883939df2", func := "tether/tetherlaw12.PapServes", spec := "papServes", unfollowed := true, recurses := true, plainKeys := false, apart := false, narrowed := true }
def PapServesUptoSaid : Prop := papServesUptoRow.holds Try.pinned (OpenSpec.upto papServesSpec)

/-- 'tetherlaw12.PapAsks', WHERE WHAT IT READS IS OF BULK AT MOST 1048576: true; the input reads as it did. -/
def papAsksUptoRow : OpenClaim := { program := "ytdlnmhobhafobaa", sum := "adca055f9e236b7992e1bfc6bb29172ccf1b64e737eea5c26544f02883939df2", func := "tether/tetherlaw12.PapAsks", spec := "papAsks", unfollowed := true, recurses := true, plainKeys := false, apart := false, narrowed := true }
def PapAsksUptoSaid : Prop := papAsksUptoRow.holds Try.pinned (OpenSpec.upto papAsksSpec)

/-- 'tetherlaw12.PapMeet', WHERE WHAT IT READS IS OF BULK AT MOST 1048576: true; the input reads as it did. -/
def papMeetUptoRow : OpenClaim := { program := "ytdlnmhobhafobaa", sum := "adca055f9e236b7992e1bfc6bb29172ccf1b64e737eea5c26544f02883939df2", func := "tether/tetherlaw12.PapMeet", spec := "papMeet", unfollowed := true, recurses := true, plainKeys := false, apart := false, narrowed := true }
def PapMeetUptoSaid : Prop := papMeetUptoRow.holds Try.pinned (OpenSpec.upto papMeetSpec)

/-- 'tetherlaw12.PapNil', WHERE WHAT IT READS IS OF BULK AT MOST 1048576: true; the input reads as it did. -/
def papNilUptoRow : OpenClaim := { program := "ytdlnmhobhafobaa", sum := "adca055f9e236b7992e1bfc6bb29172ccf1b64e737eea5c26544f02883939df2", func := "tether/tetherlaw12.PapNil", spec := "papNil", unfollowed := true, recurses := true, plainKeys := false, apart := false, narrowed := true }
def PapNilUptoSaid : Prop := papNilUptoRow.holds Try.pinned (OpenSpec.upto papNilSpec)

end Rows
end Go.Proofs.Ytdlnmhobhafobaa
