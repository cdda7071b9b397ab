/-
  No cell of these rows narrows 'for every input' (looked for: loops, veiled, ifaces, maps, wideKeys, modest, calm, conditions, laid).
  DERIVED. THE GIVEN ROWS OF THIS SEAT. 10 by the template 'for every input the law returns true; each argument reads behind the call as it read before'; 0 by the template 'total and deterministic' (their statements: YtonbdcajepmgbaaTotals.lean).
  GIVEN WITH THE SEED: the statements are not yours to turn. If you find one false, say at which input.
  Laid BY PROGRAM, IN A SANDBOX (cutbox-rows.mjs): the forced cells as the released guide's own fill.sh prints them over the translation d98fb69eee5ec67d… (all of the seat's roots in one cut). By AI agents, Wed Nov 11 2026. No macro, syntax, notation, axiom, sorry.
-/
import Derived.Test.YtonbdcajepmgbaaChecked
import GoSem.Claim
import GoSem.ClaimJoined
import GoSem.ClaimMapViews
import Derived.JoinedTies
import Derived.KernelRfl
namespace Go.Proofs.Ytonbdcajepmgbaa
/- THE CELL 'sum', in the pinned program and in every row, IS THE sha256 OF THE DUMP (.gsa) THAT YtonbdcajepmgbaaProg.lean LOADS. Nothing in Lean hashes anything: it is a label: what it is worth is what the hold of that sum in a sandbox is worth. -/
noncomputable def Try.pinned : Pinned := { name := "ytonbdcajepmgbaa", sum := "d98fb69eee5ec67d0da943f23e88b9d3810a582ba0c35f6d5efc1ea1a9ebcee2", checked := Try.checked }
namespace Rows
def none {H : Type} : Left H := { results := [], args := [] }

/-- 'tetherlaw08.TimerPlays': WHATEVER THE INPUT: true; the input reads as it did. -/
def timerPlaysSpec : ChangeSpec := { name := "timerPlays", fn := fun _ => fun
  | [d1, d2] => { results := [.lit (.bool true)], args := [d1, d2] }
  | _ => none }
def timerPlaysRow : OpenClaim := { program := "ytonbdcajepmgbaa", sum := "d98fb69eee5ec67d0da943f23e88b9d3810a582ba0c35f6d5efc1ea1a9ebcee2", func := "tether/tetherlaw08.TimerPlays", spec := "timerPlays", inPlace := ["slices.overlaps[tether/timer.timer]"], unfollowed := true, recurses := true, apart := false }
def TimerPlaysSaid : Prop := timerPlaysRow.holds Try.pinned (OpenSpec.ofChange timerPlaysSpec)

/-- ITS FALSE NEIGHBOUR: 'it returns false'. Refute it at one input. -/
def timerPlaysWrong : ChangeSpec := { name := "timerPlays", fn := fun _ => fun
  | [d1, d2] => { results := [.lit (.bool false)], args := [d1, d2] }
  | _ => none }
def TimerPlaysWrongFalsely : Prop := timerPlaysRow.holds Try.pinned (OpenSpec.ofChange timerPlaysWrong)

/-- 'tetherlaw08.TimerDue': WHATEVER THE INPUT: true; the input reads as it did. -/
def timerDueSpec : ChangeSpec := { name := "timerDue", fn := fun _ => fun
  | [d1, d2, d3] => { results := [.lit (.bool true)], args := [d1, d2, d3] }
  | _ => none }
def timerDueRow : OpenClaim := { program := "ytonbdcajepmgbaa", sum := "d98fb69eee5ec67d0da943f23e88b9d3810a582ba0c35f6d5efc1ea1a9ebcee2", func := "tether/tetherlaw08.TimerDue", spec := "timerDue", inPlace := ["slices.overlaps[tether/timer.timer]"], unfollowed := true, recurses := true, apart := false }
def TimerDueSaid : Prop := timerDueRow.holds Try.pinned (OpenSpec.ofChange timerDueSpec)

/-- ITS FALSE NEIGHBOUR: 'it returns false'. Refute it at one input. -/
def timerDueWrong : ChangeSpec := { name := "timerDue", fn := fun _ => fun
  | [d1, d2, d3] => { results := [.lit (.bool false)], args := [d1, d2, d3] }
  | _ => none }
def TimerDueWrongFalsely : Prop := timerDueRow.holds Try.pinned (OpenSpec.ofChange timerDueWrong)

/-- 'tetherlaw08.TimerFull': WHATEVER THE INPUT: true; the input reads as it did. -/
def timerFullSpec : ChangeSpec := { name := "timerFull", fn := fun _ => fun
  | [d1, d2, d3] => { results := [.lit (.bool true)], args := [d1, d2, d3] }
  | _ => none }
def timerFullRow : OpenClaim := { program := "ytonbdcajepmgbaa", sum := "d98fb69eee5ec67d0da943f23e88b9d3810a582ba0c35f6d5efc1ea1a9ebcee2", func := "tether/tetherlaw08.TimerFull", spec := "timerFull", inPlace := ["slices.overlaps[tether/timer.timer]"], unfollowed := true, recurses := true, apart := false }
def TimerFullSaid : Prop := timerFullRow.holds Try.pinned (OpenSpec.ofChange timerFullSpec)

/-- ITS FALSE NEIGHBOUR: 'it returns false'. Refute it at one input. -/
def timerFullWrong : ChangeSpec := { name := "timerFull", fn := fun _ => fun
  | [d1, d2, d3] => { results := [.lit (.bool false)], args := [d1, d2, d3] }
  | _ => none }
def TimerFullWrongFalsely : Prop := timerFullRow.holds Try.pinned (OpenSpec.ofChange timerFullWrong)

/-- 'tetherlaw09.OptBack': WHATEVER THE INPUT: true; the input reads as it did. -/
def optBackSpec : ChangeSpec := { name := "optBack", fn := fun _ => fun
  | [d1, d2, d3, d4] => { results := [.lit (.bool true)], args := [d1, d2, d3, d4] }
  | _ => none }
def optBackRow : OpenClaim := { program := "ytonbdcajepmgbaa", sum := "d98fb69eee5ec67d0da943f23e88b9d3810a582ba0c35f6d5efc1ea1a9ebcee2", func := "tether/tetherlaw09.OptBack", spec := "optBack", apart := false }
def OptBackSaid : Prop := optBackRow.holds Try.pinned (OpenSpec.ofChange optBackSpec)

/-- ITS FALSE NEIGHBOUR: 'it returns false'. Refute it at one input. -/
def optBackWrong : ChangeSpec := { name := "optBack", fn := fun _ => fun
  | [d1, d2, d3, d4] => { results := [.lit (.bool false)], args := [d1, d2, d3, d4] }
  | _ => none }
def OptBackWrongFalsely : Prop := optBackRow.holds Try.pinned (OpenSpec.ofChange optBackWrong)

/-- 'tetherlaw09.OptSubsets': WHATEVER THE INPUT: true; the input reads as it did. -/
def optSubsetsSpec : ChangeSpec := { name := "optSubsets", fn := fun _ => fun
  | [d1, d2, d3] => { results := [.lit (.bool true)], args := [d1, d2, d3] }
  | _ => none }
def optSubsetsRow : OpenClaim := { program := "ytonbdcajepmgbaa", sum := "d98fb69eee5ec67d0da943f23e88b9d3810a582ba0c35f6d5efc1ea1a9ebcee2", func := "tether/tetherlaw09.OptSubsets", spec := "optSubsets", apart := false }
def OptSubsetsSaid : Prop := optSubsetsRow.holds Try.pinned (OpenSpec.ofChange optSubsetsSpec)

/-- ITS FALSE NEIGHBOUR: 'it returns false'. Refute it at one input. -/
def optSubsetsWrong : ChangeSpec := { name := "optSubsets", fn := fun _ => fun
  | [d1, d2, d3] => { results := [.lit (.bool false)], args := [d1, d2, d3] }
  | _ => none }
def OptSubsetsWrongFalsely : Prop := optSubsetsRow.holds Try.pinned (OpenSpec.ofChange optSubsetsWrong)

/-- 'tetherlaw11.LcpOptions': WHATEVER THE INPUT: true; the input reads as it did. -/
def lcpOptionsSpec : ChangeSpec := { name := "lcpOptions", fn := fun _ => fun
  | [d1, d2, d3, d4] => { results := [.lit (.bool true)], args := [d1, d2, d3, d4] }
  | _ => none }
def lcpOptionsRow : OpenClaim := { program := "ytonbdcajepmgbaa", sum := "d98fb69eee5ec67d0da943f23e88b9d3810a582ba0c35f6d5efc1ea1a9ebcee2", func := "tether/tetherlaw11.LcpOptions", spec := "lcpOptions", unfollowed := true, recurses := true, apart := false }
def LcpOptionsSaid : Prop := lcpOptionsRow.holds Try.pinned (OpenSpec.ofChange lcpOptionsSpec)

/-- ITS FALSE NEIGHBOUR: 'it returns false'. Refute it at one input. -/
def lcpOptionsWrong : ChangeSpec := { name := "lcpOptions", fn := fun _ => fun
  | [d1, d2, d3, d4] => { results := [.lit (.bool false)], args := [d1, d2, d3, d4] }
  | _ => none }
def LcpOptionsWrongFalsely : Prop := lcpOptionsRow.holds Try.pinned (OpenSpec.ofChange lcpOptionsWrong)

/-- 'tetherlaw11.LcpEchoes': WHATEVER THE INPUT: true; the input reads as it did. -/
def lcpEchoesSpec : ChangeSpec := { name := "lcpEchoes", fn := fun _ => fun
  | [d1, d2, d3, d4] => { results := [.lit (.bool true)], args := [d1, d2, d3, d4] }
  | _ => none }
def lcpEchoesRow : OpenClaim := { program := "ytonbdcajepmgbaa", sum := "d98fb69eee5ec67d0da943f23e88b9d3810a582ba0c35f6d5efc1ea1a9ebcee2", func := "tether/tetherlaw11.LcpEchoes", spec := "lcpEchoes", unfollowed := true, recurses := true, apart := false }
def LcpEchoesSaid : Prop := lcpEchoesRow.holds Try.pinned (OpenSpec.ofChange lcpEchoesSpec)

/-- ITS FALSE NEIGHBOUR: 'it returns false'. Refute it at one input. -/
def lcpEchoesWrong : ChangeSpec := { name := "lcpEchoes", fn := fun _ => fun
  | [d1, d2, d3, d4] => { results := [.lit (.bool false)], args := [d1, d2, d3, d4] }
  | _ => none }
def LcpEchoesWrongFalsely : Prop := lcpEchoesRow.holds Try.pinned (OpenSpec.ofChange lcpEchoesWrong)

/-- 'tetherlaw11.LcpBack': WHATEVER THE INPUT: true; the input reads as it did. -/
def lcpBackSpec : ChangeSpec := { name := "lcpBack", fn := fun _ => fun
  | [d] => { results := [.lit (.bool true)], args := [d] }
  | _ => none }
def lcpBackRow : OpenClaim := { program := "ytonbdcajepmgbaa", sum := "d98fb69eee5ec67d0da943f23e88b9d3810a582ba0c35f6d5efc1ea1a9ebcee2", func := "tether/tetherlaw11.LcpBack", spec := "lcpBack", unfollowed := true, recurses := true, apart := false }
def LcpBackSaid : Prop := lcpBackRow.holds Try.pinned (OpenSpec.ofChange lcpBackSpec)

/-- ITS FALSE NEIGHBOUR: 'it returns false'. Refute it at one input. -/
def lcpBackWrong : ChangeSpec := { name := "lcpBack", fn := fun _ => fun
  | [d] => { results := [.lit (.bool false)], args := [d] }
  | _ => none }
def LcpBackWrongFalsely : Prop := lcpBackRow.holds Try.pinned (OpenSpec.ofChange lcpBackWrong)

/-- 'tetherlaw11.LcpFits': WHATEVER THE INPUT: true; the input reads as it did. -/
def lcpFitsSpec : ChangeSpec := { name := "lcpFits", fn := fun _ => fun
  | [d1, d2, d3, d4, d5] => { results := [.lit (.bool true)], args := [d1, d2, d3, d4, d5] }
  | _ => none }
def lcpFitsRow : OpenClaim := { program := "ytonbdcajepmgbaa", sum := "d98fb69eee5ec67d0da943f23e88b9d3810a582ba0c35f6d5efc1ea1a9ebcee2", func := "tether/tetherlaw11.LcpFits", spec := "lcpFits", unfollowed := true, recurses := true, apart := false }
def LcpFitsSaid : Prop := lcpFitsRow.holds Try.pinned (OpenSpec.ofChange lcpFitsSpec)

/-- ITS FALSE NEIGHBOUR: 'it returns false'. Refute it at one input. -/
def lcpFitsWrong : ChangeSpec := { name := "lcpFits", fn := fun _ => fun
  | [d1, d2, d3, d4, d5] => { results := [.lit (.bool false)], args := [d1, d2, d3, d4, d5] }
  | _ => none }
def LcpFitsWrongFalsely : Prop := lcpFitsRow.holds Try.pinned (OpenSpec.ofChange lcpFitsWrong)

/-- 'tetherlaw11.LcpEnds': WHATEVER THE INPUT: true; the input reads as it did. -/
def lcpEndsSpec : ChangeSpec := { name := "lcpEnds", fn := fun _ => fun
  | [d1, d2, d3, d4] => { results := [.lit (.bool true)], args := [d1, d2, d3, d4] }
  | _ => none }
def lcpEndsRow : OpenClaim := { program := "ytonbdcajepmgbaa", sum := "d98fb69eee5ec67d0da943f23e88b9d3810a582ba0c35f6d5efc1ea1a9ebcee2", func := "tether/tetherlaw11.LcpEnds", spec := "lcpEnds", unfollowed := true, recurses := true, apart := false }
def LcpEndsSaid : Prop := lcpEndsRow.holds Try.pinned (OpenSpec.ofChange lcpEndsSpec)

/-- ITS FALSE NEIGHBOUR: 'it returns false'. Refute it at one input. -/
def lcpEndsWrong : ChangeSpec := { name := "lcpEnds", fn := fun _ => fun
  | [d1, d2, d3, d4] => { results := [.lit (.bool false)], args := [d1, d2, d3, d4] }
  | _ => none }
def LcpEndsWrongFalsely : Prop := lcpEndsRow.holds Try.pinned (OpenSpec.ofChange lcpEndsWrong)

/- THE SECOND FORM. 'bulk': how many values and letters a reading holds, each counted each time it is reached (what is shared counts as often as it is met; a slice's spare places count too). A statement '..UptoSaid' is the law's where the arguments, and the package variables that the reading takes, are together of bulk at most 1048576: NARROWER than '..Said'. Prove '..Said' where nothing that the law and all that it calls make is longer than what came in: it says more and counts as full. Else prove '..UptoSaid'. A law counts once. -/
mutual
def uptoBulk {H : Type} : DataW H → Nat
  | .lit (.string bytes) => bytes.length + 1
  | .lit _ => 1
  | .nil => 1
  | .ptr d => uptoBulk d + 1
  | .slice elems spare => uptoBulkAll elems + uptoBulkAll spare + 1
  | .agg parts => uptoBulkAll parts + 1
  | .iface _ d => uptoBulk d + 1
  | .map entries => uptoBulkEntries entries + 1
  | .held _ => 1
def uptoBulkAll {H : Type} : List (DataW H) → Nat
  | [] => 0
  | d :: r => uptoBulk d + uptoBulkAll r
def uptoBulkEntries {H : Type} : List (Lit × DataW H) → Nat
  | [] => 0
  | x :: r => uptoBulkEntry x + uptoBulkEntries r
def uptoBulkEntry {H : Type} : Lit × DataW H → Nat
  | (.string bytes, d) => bytes.length + uptoBulk d + 1
  | (_, d) => uptoBulk d + 1
 end
def uptoSmall : (H : Type) → List (DataW H) → Bool := fun _ ds => decide (uptoBulkAll ds ≤ 1048576)
def OpenSpec.upto (s : _root_.Go.ChangeSpec) : _root_.Go.OpenSpec := { _root_.Go.OpenSpec.ofChange s with cond := some uptoSmall }

/-- 'tetherlaw08.TimerPlays', WHERE WHAT IT READS IS OF BULK AT MOST 1048576: true; the input reads as it did. -/
def timerPlaysUptoRow : OpenClaim := { program := "ytonbdcajepmgbaa", sum := "d98fb69eee5ec67d0da943f23e88b9d3810a582ba0c35f6d5efc1ea1a9ebcee2", func := "tether/tetherlaw08.TimerPlays", spec := "timerPlays", inPlace := ["slices.overlaps[tether/timer.timer]"], unfollowed := true, recurses := true, apart := false, narrowed := true }
def TimerPlaysUptoSaid : Prop := timerPlaysUptoRow.holds Try.pinned (OpenSpec.upto timerPlaysSpec)

/-- 'tetherlaw08.TimerDue', WHERE WHAT IT READS IS OF BULK AT MOST 1048576: true; the input reads as it did. -/
def timerDueUptoRow : OpenClaim := { program := "ytonbdcajepmgbaa", sum := "d98fb69eee5ec67d0da943f23e88b9d3810a582ba0c35f6d5efc1ea1a9ebcee2", func := "tether/tetherlaw08.TimerDue", spec := "timerDue", inPlace := ["slices.overlaps[tether/timer.timer]"], unfollowed := true, recurses := true, apart := false, narrowed := true }
def TimerDueUptoSaid : Prop := timerDueUptoRow.holds Try.pinned (OpenSpec.upto timerDueSpec)

/-- 'tetherlaw08.TimerFull', WHERE WHAT IT READS IS OF BULK AT MOST 1048576: true; the input reads as it did. -/
def timerFullUptoRow : OpenClaim := { program := "ytonbdcajepmgbaa", sum := "d98fb69eee5ec67d0da943f23e88b9d3810a582ba0c35f6d5efc1ea1a9ebcee2", func := "tether/tetherlaw08.TimerFull", spec := "timerFull", inPlace := ["slices.overlaps[tether/timer.timer]"], unfollowed := true, recurses := true, apart := false, narrowed := true }
def TimerFullUptoSaid : Prop := timerFullUptoRow.holds Try.pinned (OpenSpec.upto timerFullSpec)

/-- 'tetherlaw09.OptBack', WHERE WHAT IT READS IS OF BULK AT MOST 1048576: true; the input reads as it did. -/
def optBackUptoRow : OpenClaim := { program := "ytonbdcajepmgbaa", sum := "d98fb69eee5ec67d0da943f23e88b9d3810a582ba0c35f6d5efc1ea1a9ebcee2", func := "tether/tetherlaw09.OptBack", spec := "optBack", apart := false, narrowed := true }
def OptBackUptoSaid : Prop := optBackUptoRow.holds Try.pinned (OpenSpec.upto optBackSpec)

/-- 'tetherlaw09.OptSubsets', WHERE WHAT IT READS IS OF BULK AT MOST 1048576: true; the input reads as it did. -/
def optSubsetsUptoRow : OpenClaim := { program := "ytonbdcajepmgbaa", sum := "d98fb69eee5ec67d0da943f23e88b9d3810a582ba0c35f6d5efc1ea1a9ebcee2", func := "tether/tetherlaw09.OptSubsets", spec := "optSubsets", apart := false, narrowed := true }
def OptSubsetsUptoSaid : Prop := optSubsetsUptoRow.holds Try.pinned (OpenSpec.upto optSubsetsSpec)

/-- 'tetherlaw11.LcpOptions', WHERE WHAT IT READS IS OF BULK AT MOST 1048576: true; the input reads as it did. -/
def lcpOptionsUptoRow : OpenClaim := { program := "ytonbdcajepmgbaa", sum := "d98fb69eee5ec67d0da943f23e88b9d3810a582ba0c35f6d5efc1ea1a9ebcee2", func := "tether/tetherlaw11.LcpOptions", spec := "lcpOptions", unfollowed := true, recurses := true, apart := false, narrowed := true }
def LcpOptionsUptoSaid : Prop := lcpOptionsUptoRow.holds Try.pinned (OpenSpec.upto lcpOptionsSpec)

/-- 'tetherlaw11.LcpEchoes', WHERE WHAT IT READS IS OF BULK AT MOST 1048576: true; the input reads as it did. -/
def lcpEchoesUptoRow : OpenClaim := { program := "ytonbdcajepmgbaa", sum := "d98fb69eee5ec67d0da943f23e88b9d3810a582ba0c35f6d5efc1ea1a9ebcee2", func := "tether/tetherlaw11.LcpEchoes", spec := "lcpEchoes", unfollowed := true, recurses := true, apart := false, narrowed := true }
def LcpEchoesUptoSaid : Prop := lcpEchoesUptoRow.holds Try.pinned (OpenSpec.upto lcpEchoesSpec)

/-- 'tetherlaw11.LcpBack', WHERE WHAT IT READS IS OF BULK AT MOST 1048576: true; the input reads as it did. -/
def lcpBackUptoRow : OpenClaim := { program := "ytonbdcajepmgbaa", sum := "d98fb69eee5ec67d0da943f23e88b9d3810a582ba0c35f6d5efc1ea1a9ebcee2", func := "tether/tetherlaw11.LcpBack", spec := "lcpBack", unfollowed := true, recurses := true, apart := false, narrowed := true }
def LcpBackUptoSaid : Prop := lcpBackUptoRow.holds Try.pinned (OpenSpec.upto lcpBackSpec)

/-- 'tetherlaw11.LcpFits', WHERE WHAT IT READS IS OF BULK AT MOST 1048576: true; the input reads as it did. -/
def lcpFitsUptoRow : OpenClaim := { program := "ytonbdcajepmgbaa", sum := "d98fb69eee5ec67d0da943f23e88b9d3810a582ba0c35f6d5efc1ea1a9ebcee2", func := "tether/tetherlaw11.LcpFits", spec := "lcpFits", unfollowed := true, recurses := true, apart := false, narrowed := true }
def LcpFitsUptoSaid : Prop := lcpFitsUptoRow.holds Try.pinned (OpenSpec.upto lcpFitsSpec)

/-- 'tetherlaw11.LcpEnds', WHERE WHAT IT READS IS OF BULK AT MOST 1048576: true; the input reads as it did. -/
def lcpEndsUptoRow : OpenClaim := { program := "ytonbdcajepmgbaa", sum := "d98fb69eee5ec67d0da943f23e88b9d3810a582ba0c35f6d5efc1ea1a9ebcee2", func := "tether/tetherlaw11.LcpEnds", spec := "lcpEnds", unfollowed := true, recurses := true, apart := false, narrowed := true }
def LcpEndsUptoSaid : Prop := lcpEndsUptoRow.holds Try.pinned (OpenSpec.upto lcpEndsSpec)

end Rows
end Go.Proofs.Ytonbdcajepmgbaa
